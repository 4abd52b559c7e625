/- Archives (chapter 10): vectors, gaps and what is lacking (plain). -/
import Derived.Test.YtbpgifihlppedaaGreatDoorGOvK
import Derived.Deep.CutRange
namespace Go.Proofs.YtbpgifihlppedaaGreatDoor
open Go.RowKit Go.Lib
set_option linter.unusedSimpArgs false
set_option linter.unusedVariables false
/-- the number that is known of a desk -/
def lastN (v : List MkR) (d : ByteArray) : Int := v.foldl (fun n m => if (m.de.toList == d.toList) = true then m.nu else n) 0
theorem lastN_add (v : List MkR) (m : MkR) (d : ByteArray) : lastN (v ++ [m]) d = if (m.de.toList == d.toList) = true then m.nu else lastN v d := by
  unfold lastN; rw [List.foldl_append]; rfl
/-- the entries that are lacking -/
def lackL (l : List EnR) (v : List MkR) : List EnR := l.filter fun e => decide (lastN v e.de < e.nu)
theorem lackL_add (l : List EnR) (v : List MkR) (e : EnR) : lackL (l ++ [e]) v = if lastN v e.de < e.nu then lackL l v ++ [e] else lackL l v := by
  unfold lackL; rw [List.filter_append]
  by_cases h : lastN v e.de < e.nu <;> simp [h]
/-- one entry more for the vector, the last mark first -/
def stepV (rv : List MkR) (e : EnR) : List MkR := match rv with
  | [] => [⟨e.de, if e.nu = 1 then 1 else 0⟩]
  | m :: t => if (e.de.toList == m.de.toList) = true then ⟨m.de, if e.nu = m.nu + 1 then m.nu + 1 else m.nu⟩ :: t else ⟨e.de, if e.nu = 1 then 1 else 0⟩ :: m :: t
def vecRev (l : List EnR) : List MkR := l.foldl stepV []
/-- the vector, as the reference makes it -/
def vecL (l : List EnR) : List MkR := (vecRev l).reverse
theorem vecRev_add (l : List EnR) (e : EnR) : vecRev (l ++ [e]) = stepV (vecRev l) e := by unfold vecRev; rw [List.foldl_append]; rfl
/-- entries of one desk, one after another -/
def sameD (x y : EnR) : Bool := y.de.toList == x.de.toList
def grps : Nat → List EnR → List (List EnR)
  | 0, _ => []
  | _ + 1, [] => []
  | f + 1, x :: t => (x :: t.takeWhile (sameD x)) :: grps f (t.dropWhile (sameD x))
def groups (l : List EnR) : List (List EnR) := grps l.length l
/-- how many are there, from the first on -/
def cntN : Nat → List EnR → Nat
  | c, [] => c
  | c, e :: t => if e.nu = (c : Int) + 1 then cntN (c + 1) t else c
def deskOf (g : List EnR) : ByteArray := match g with
  | [] => ⟨#[]⟩
  | x :: _ => x.de
def vecG (g : List EnR) : MkR := ⟨deskOf g, ((cntN 0 g : Nat) : Int)⟩
/-- the vector, as the program makes it -/
def vecP (l : List EnR) : List MkR := (groups l).map vecG
def gapG (g : List EnR) : List MkR := if cntN 0 g < g.length then [⟨deskOf g, ((cntN 0 g : Nat) : Int) + 1⟩] else []
/-- the gaps, as the program makes them -/
def gapsP (l : List EnR) : List MkR := (groups l).flatMap gapG
/-- the greatest number of a desk -/
def grt (l : List EnR) (d : ByteArray) : Int := l.foldl (fun n e => if (e.de.toList == d.toList) = true then e.nu else n) 0
theorem grt_add (l : List EnR) (e : EnR) (d : ByteArray) : grt (l ++ [e]) d = if (e.de.toList == d.toList) = true then e.nu else grt l d := by
  unfold grt; rw [List.foldl_append]; rfl
def gapM (l : List EnR) (m : MkR) : List MkR := if m.nu < grt l m.de then [⟨m.de, m.nu + 1⟩] else []
/-- the gaps, as the reference makes them -/
def gapsR (l : List EnR) : List MkR := (vecL l).flatMap (gapM l)
theorem baI {s t : ByteArray} (h : s.toList = t.toList) : s = t := by
  rw [ByteArray.toList_eq, ByteArray.toList_eq] at h
  exact ByteArray.ext (Array.toList_inj.1 h)
/-- ascending numbers of one desk -/
structure Asc1 (d : ByteArray) (c : Int) (g : List EnR) : Prop where
  desk : ∀ e ∈ g, e.de = d
  lo : ∀ e ∈ g, c < e.nu
  asc : g.Pairwise fun a b => a.nu < b.nu
theorem fold_one {d : ByteArray} : ∀ (g : List EnR) (c : Nat) (rv : List MkR), Asc1 d c g → g.foldl stepV (⟨d, (c : Int)⟩ :: rv) = ⟨d, ((cntN c g : Nat) : Int)⟩ :: rv
  | [], c, rv, _ => rfl
  | e :: g, c, rv, h => by
    have hd : e.de = d := h.desk e (by simp)
    have hlo := h.lo e (by simp)
    have hp := List.pairwise_cons.1 h.asc
    rw [List.foldl_cons]
    have hs : stepV (⟨d, (c : Int)⟩ :: rv) e = ⟨d, if e.nu = (c : Int) + 1 then (c : Int) + 1 else c⟩ :: rv := by
      unfold stepV; rw [hd]; simp
    rw [hs]
    unfold cntN
    by_cases h1 : e.nu = (c : Int) + 1
    · rw [if_pos h1, if_pos h1]
      have := fold_one g (c + 1) rv ⟨fun x hx => h.desk x (by simp [hx]), fun x hx => by have := hp.1 x hx; omega, hp.2⟩
      rw [show ((c : Int) + 1) = (((c + 1 : Nat)) : Int) by omega]
      exact this
    · rw [if_neg h1, if_neg h1]
      have hc : ∀ (g : List EnR), (∀ x ∈ g, x.de = d) → (∀ x ∈ g, (c : Int) + 1 < x.nu) → g.foldl stepV (⟨d, (c : Int)⟩ :: rv) = ⟨d, (c : Int)⟩ :: rv := by
        intro g
        induction g with
        | nil => intros; rfl
        | cons x g ih =>
          intro h2 h3
          rw [List.foldl_cons]
          have hx := h3 x (by simp)
          have : stepV (⟨d, (c : Int)⟩ :: rv) x = ⟨d, (c : Int)⟩ :: rv := by
            unfold stepV; rw [h2 x (by simp)]; simp; omega
          rw [this]
          exact ih (fun y hy => h2 y (by simp [hy])) (fun y hy => h3 y (by simp [hy]))
      exact hc g (fun x hx => h.desk x (by simp [hx])) (fun x hx => by have := hp.1 x hx; omega)
/-- an archive in order -/
structure Ord (l : List EnR) : Prop where
  lo : ∀ e ∈ l, 1 ≤ e.nu
  asc : l.Pairwise fun a b => befB a b = true
theorem befB_same {a b : EnR} (h : befB a b = true) (e : b.de.toList = a.de.toList) : a.nu < b.nu := by
  unfold befB at h
  rw [ltS_eq e.symm, Bool.false_or, Bool.and_eq_true] at h
  exact of_decide_eq_true h.2
theorem takeWhile_same {x : EnR} {t : List EnR} : ∀ e ∈ t.takeWhile (sameD x), e.de = x.de := fun e he => by
  have := List.all_takeWhile (p := sameD x) (l := t)
  rw [List.all_eq_true] at this
  have h := this e he
  unfold sameD at h
  exact baI (beq_iff_eq.1 h)
theorem Ord.sub {l m : List EnR} (h : Ord l) (hs : m.Sublist l) : Ord m := ⟨fun e he => h.lo e (hs.subset he), h.asc.sublist hs⟩
theorem group_asc {x : EnR} {t : List EnR} (h : Ord (x :: t)) : Asc1 x.de 0 (x :: t.takeWhile (sameD x)) := by
  have hd : ∀ e ∈ x :: t.takeWhile (sameD x), e.de = x.de := fun e he => by
    rcases List.mem_cons.1 he with rfl | he
    · rfl
    · exact takeWhile_same e he
  have hs : (x :: t.takeWhile (sameD x)).Sublist (x :: t) := (List.takeWhile_sublist _).cons_cons x
  refine ⟨hd, fun e he => by have := h.lo e (hs.subset he); omega, ?_⟩
  have hp := h.asc.sublist hs
  refine List.Pairwise.imp_of_mem ?_ hp
  intro a b ha hb hab
  exact befB_same hab (by rw [hd a ha, hd b hb])
theorem vec_fold : ∀ (f : Nat) (l : List EnR) (rv : List MkR), l.length ≤ f → Ord l → (∀ m t x s, rv = m :: t → l = x :: s → ¬ x.de.toList = m.de.toList) → l.foldl stepV rv = ((grps f l).map vecG).reverse ++ rv
  | 0, [], rv, _, _, _ => rfl
  | 0, _ :: _, _, h, _, _ => by simp at h
  | f + 1, [], rv, _, _, _ => rfl
  | f + 1, x :: t, rv, hl, ho, hne => by
    have hsplit : x :: t = (x :: t.takeWhile (sameD x)) ++ t.dropWhile (sameD x) := by simp
    have hga := group_asc ho
    have h0 : (x :: t.takeWhile (sameD x)).foldl stepV rv = vecG (x :: t.takeWhile (sameD x)) :: rv := by
      rw [List.foldl_cons]
      have hs : stepV rv x = ⟨x.de, if x.nu = 1 then 1 else 0⟩ :: rv := by
        unfold stepV
        cases rv with
        | nil => rfl
        | cons m s =>
          have := hne m s x t rfl rfl
          simp [this]
      rw [hs]
      unfold vecG deskOf cntN
      have hp := List.pairwise_cons.1 hga.asc
      by_cases h1 : x.nu = 1
      · rw [if_pos h1, if_pos (by simpa using h1)]
        exact fold_one _ 1 rv ⟨fun e he => hga.desk e (by simp [he]), fun e he => by have := hp.1 e he; omega, hp.2⟩
      · rw [if_neg h1, if_neg (by simpa using h1)]
        have hlo := ho.lo x (by simp)
        have := fold_one (x :: t.takeWhile (sameD x)) 0 rv hga
        rw [List.foldl_cons] at this
        have hs2 : stepV (⟨x.de, ((0 : Nat) : Int)⟩ :: rv) x = ⟨x.de, 0⟩ :: rv := by
          unfold stepV; simp [h1]
        rw [hs2] at this
        unfold cntN at this
        rw [if_neg (by simpa using h1)] at this
        exact this
    conv => lhs; rw [hsplit]
    rw [List.foldl_append, h0]
    have hdl : (t.dropWhile (sameD x)).length ≤ t.length := (List.dropWhile_sublist _).length_le
    rw [vec_fold f (t.dropWhile (sameD x)) _ (by simp at hl; omega) (ho.sub ((List.dropWhile_sublist _).cons x)) ?_]
    · simp [grps]
    · intro m s y r hm hy
      simp only [List.cons.injEq] at hm
      have hnot : sameD x y = false := by
        have := List.head?_dropWhile_not (sameD x) t
        rw [hy] at this
        simpa using this
      rw [← hm.1]
      unfold vecG deskOf
      unfold sameD at hnot
      intro e
      rw [e] at hnot
      simp at hnot
theorem vec_same {l : List EnR} (h : Ord l) : vecL l = vecP l := by
  unfold vecL vecRev vecP groups
  rw [vec_fold l.length l [] (Nat.le_refl _) h (by intro m t x s e; cases e)]
  simp
end Go.Proofs.YtbpgifihlppedaaGreatDoor
namespace Go.Proofs.YtbpgifihlppedaaGreatDoor
open Go.RowKit Go.Lib
set_option linter.unusedSimpArgs false
set_option linter.unusedVariables false
theorem less_trans : ∀ a b c : List UInt8, Op.bytesLess a b = true → Op.bytesLess b c = true → Op.bytesLess a c = true
  | _, [], _, h, _ => by simp [Op.bytesLess] at h
  | _, _ :: _, [], _, h => by simp [Op.bytesLess] at h
  | [], _ :: _, _ :: _, _, _ => by simp [Op.bytesLess]
  | x :: a, y :: b, z :: c, h1, h2 => by
    unfold Op.bytesLess at h1 h2 ⊢
    simp only [Bool.or_eq_true, decide_eq_true_eq, Bool.and_eq_true, beq_iff_eq] at *
    rcases h1 with h1 | ⟨h1, h1'⟩ <;> rcases h2 with h2 | ⟨h2, h2'⟩
    · left; rw [UInt8.lt_iff_toNat_lt] at *; omega
    · left; rw [← h2]; exact h1
    · left; rw [h1]; exact h2
    · right; exact ⟨h1.trans h2, less_trans a b c h1' h2'⟩
theorem post_ne {x : EnR} {t : List EnR} (h : Ord (x :: t)) : ∀ e ∈ t.dropWhile (sameD x), ¬ e.de.toList = x.de.toList := by
  intro e he
  have hsub : (t.dropWhile (sameD x)).Sublist t := List.dropWhile_sublist _
  have hp := List.pairwise_cons.1 h.asc
  cases hd : t.dropWhile (sameD x) with
  | nil => rw [hd] at he; cases he
  | cons y r =>
    have hnot : sameD x y = false := by
      have := List.head?_dropWhile_not (sameD x) t
      rw [hd] at this
      simpa using this
    have hyt : y ∈ t := hsub.subset (by rw [hd]; simp)
    have hxy := hp.1 y hyt
    unfold sameD at hnot
    have hlt : ltS x.de y.de = true := by
      unfold befB at hxy
      have h2 : (x.de.toList == y.de.toList) = false := by
        rw [Bool.beq_comm]; exact hnot
      rw [h2] at hxy
      simpa using hxy
    have hlt2 : ltS x.de e.de = true := by
      rw [hd] at he
      rcases List.mem_cons.1 he with rfl | he
      · exact hlt
      · have hpt := hp.2.sublist hsub
        rw [hd] at hpt
        have hye := (List.pairwise_cons.1 hpt).1 e he
        unfold befB at hye
        rw [Bool.or_eq_true] at hye
        rcases hye with hye | hye
        · exact less_trans _ _ _ hlt hye
        · rw [Bool.and_eq_true] at hye
          have := beq_iff_eq.1 hye.1
          unfold ltS at hlt ⊢
          rw [← this]; exact hlt
    intro heq
    rw [ltS_eq heq.symm] at hlt2
    cases hlt2
def lastNu (c : Int) (g : List EnR) : Int := g.foldl (fun _ e => e.nu) c
theorem lastNu_lo : ∀ (g : List EnR) (c : Int) (d : ByteArray), Asc1 d c g → c ≤ lastNu c g
  | [], c, d, _ => Int.le_refl _
  | e :: g, c, d, h => by
    have hp := List.pairwise_cons.1 h.asc
    have := lastNu_lo g e.nu d ⟨fun x hx => h.desk x (by simp [hx]), fun x hx => hp.1 x hx, hp.2⟩
    have h2 := h.lo e (by simp)
    unfold lastNu at *
    rw [List.foldl_cons]
    omega
theorem cnt_last : ∀ (g : List EnR) (c : Nat) (d : ByteArray), Asc1 d c g → (((cntN c g : Nat) : Int) < lastNu c g ↔ cntN c g < c + g.length)
  | [], c, d, _ => by simp [cntN, lastNu]
  | e :: g, c, d, h => by
    have hp := List.pairwise_cons.1 h.asc
    unfold cntN
    by_cases h1 : e.nu = (c : Int) + 1
    · rw [if_pos h1]
      have := cnt_last g (c + 1) d ⟨fun x hx => h.desk x (by simp [hx]), fun x hx => by have := hp.1 x hx; omega, hp.2⟩
      unfold lastNu at *
      rw [List.foldl_cons, h1, show (c : Int) + 1 = ((c + 1 : Nat) : Int) by omega, this]
      simp only [List.length_cons]
      omega
    · rw [if_neg h1]
      have h2 := h.lo e (by simp)
      have := lastNu_lo g e.nu d ⟨fun x hx => h.desk x (by simp [hx]), fun x hx => hp.1 x hx, hp.2⟩
      unfold lastNu at *
      rw [List.foldl_cons]
      simp only [List.length_cons]
      constructor <;> intro _ <;> omega
theorem grt_none {d : ByteArray} : ∀ (g : List EnR) (n : Int), (∀ e ∈ g, ¬ e.de.toList = d.toList) → g.foldl (fun n e => if (e.de.toList == d.toList) = true then e.nu else n) n = n
  | [], n, _ => rfl
  | e :: g, n, h => by
    rw [List.foldl_cons, if_neg (by simpa using h e (by simp))]
    exact grt_none g n (fun x hx => h x (by simp [hx]))
theorem grt_all {d : ByteArray} : ∀ (g : List EnR) (n : Int), (∀ e ∈ g, e.de = d) → g.foldl (fun n e => if (e.de.toList == d.toList) = true then e.nu else n) n = lastNu n g
  | [], n, _ => rfl
  | e :: g, n, h => by
    rw [List.foldl_cons, if_pos (by rw [h e (by simp)]; simp)]
    unfold lastNu
    rw [List.foldl_cons]
    exact grt_all g e.nu (fun x hx => h x (by simp [hx]))
theorem gap_one {pre : List EnR} {x : EnR} {t : List EnR} (h : Ord (x :: t)) : gapM (pre ++ x :: t) (vecG (x :: t.takeWhile (sameD x))) = gapG (x :: t.takeWhile (sameD x)) := by
  have hga := group_asc h
  have hsplit : x :: t = (x :: t.takeWhile (sameD x)) ++ t.dropWhile (sameD x) := by simp
  have hg : grt (pre ++ x :: t) x.de = lastNu 0 (x :: t.takeWhile (sameD x)) := by
    unfold grt
    rw [hsplit, List.foldl_append, List.foldl_append, grt_none _ _ (post_ne h), grt_all _ _ hga.desk]
    unfold lastNu
    rw [List.foldl_cons, List.foldl_cons]
  unfold gapM gapG
  have hd : (vecG (x :: t.takeWhile (sameD x))).de = x.de := rfl
  have hn : (vecG (x :: t.takeWhile (sameD x))).nu = ((cntN 0 (x :: t.takeWhile (sameD x)) : Nat) : Int) := rfl
  have hc : (((cntN 0 (x :: t.takeWhile (sameD x)) : Nat) : Int) < lastNu 0 (x :: t.takeWhile (sameD x)) ↔ cntN 0 (x :: t.takeWhile (sameD x)) < 0 + (x :: t.takeWhile (sameD x)).length) := cnt_last _ 0 _ hga
  rw [Nat.zero_add] at hc
  rw [hd, hn, hg]
  by_cases h1 : cntN 0 (x :: t.takeWhile (sameD x)) < (x :: t.takeWhile (sameD x)).length
  · rw [if_pos h1, if_pos (hc.2 h1)]; rfl
  · rw [if_neg h1, if_neg (fun h2 => h1 (hc.1 h2))]
theorem gap_fold : ∀ (f : Nat) (pre l : List EnR), Ord l → ((grps f l).map vecG).flatMap (gapM (pre ++ l)) = (grps f l).flatMap gapG
  | 0, _, _, _ => rfl
  | _ + 1, _, [], _ => rfl
  | f + 1, pre, x :: t, h => by
    have e : pre ++ x :: t = (pre ++ x :: t.takeWhile (sameD x)) ++ t.dropWhile (sameD x) := by simp
    unfold grps
    rw [List.map_cons, List.flatMap_cons, List.flatMap_cons, gap_one h]
    congr 1
    rw [e]
    exact gap_fold f _ _ (h.sub ((List.dropWhile_sublist _).cons x))
theorem gaps_same {l : List EnR} (h : Ord l) : gapsR l = gapsP l := by
  unfold gapsR gapsP
  rw [vec_same h]
  exact gap_fold l.length [] l h
theorem befB_trans {a b c : EnR} (h1 : befB a b = true) (h2 : befB b c = true) : befB a c = true := by
  unfold befB at *
  rw [Bool.or_eq_true, Bool.and_eq_true] at *
  rcases h1 with h1 | ⟨h1, h1'⟩ <;> rcases h2 with h2 | ⟨h2, h2'⟩
  · left; exact less_trans _ _ _ h1 h2
  · left; unfold ltS at *; rw [← beq_iff_eq.1 h2]; exact h1
  · left; unfold ltS at *; rw [beq_iff_eq.1 h1]; exact h2
  · right
    have := of_decide_eq_true h1'
    have := of_decide_eq_true h2'
    exact ⟨by rw [beq_iff_eq.1 h1, beq_iff_eq.1 h2]; simp, decide_eq_true (by omega)⟩
theorem errG_all {α : Type} {E : Nat → α → Int} {xs : List α} : ∀ (k i : Nat), i + k = xs.length → errG E xs k i = 0 → ∀ j x, i ≤ j → xs[j]? = some x → E j x = 0
  | 0, i, h, _, j, x, hj, hx => by
    have := (List.getElem?_eq_some_iff.1 hx).1; omega
  | k + 1, i, h, h0, j, x, hj, hx => by
    unfold errG at h0
    cases hi : xs[i]? with
    | none => rw [List.getElem?_eq_none_iff] at hi; omega
    | some y =>
      rw [hi] at h0
      by_cases hy : E i y = 0
      · simp only [hy, if_pos] at h0
        rcases Nat.eq_or_lt_of_le hj with e | hlt
        · subst e
          rw [hx] at hi; cases hi
          exact hy
        · exact errG_all k (i + 1) (by omega) h0 j x (by omega) hx
      · simp only [hy, if_neg, not_false_eq_true] at h0
theorem arch_ord {l : List EnR} (h : archE l = 0) : Ord l ∧ ∀ e ∈ l, enErr e = 0 := by
  have ha := errG_all l.length 0 (by omega) h
  have hf : ∀ x y : Int, firstE [x, y] = if x = 0 then (if y = 0 then 0 else y) else x := fun _ _ => rfl
  have h1 : ∀ i x, l[i]? = some x → enErr x = 0 ∧ ordE l i x = false := fun i x hx => by
    have h0 := ha i x (Nat.zero_le _) hx
    unfold enE at h0
    rw [hf] at h0
    by_cases he : enErr x = 0
    · refine ⟨he, ?_⟩
      cases ho : ordE l i x with
      | false => rfl
      | true => rw [he, ho] at h0; simp at h0
    · rw [if_neg he] at h0; exact absurd h0 he
  have he : ∀ e ∈ l, enErr e = 0 := fun e he => by
    obtain ⟨i, hi⟩ := List.getElem?_of_mem he
    exact (h1 i e hi).1
  refine ⟨⟨fun e hm => ?_, ?_⟩, he⟩
  · have h0 := he e hm
    unfold enErr entryE at h0
    have h4 : ∀ a b c d : Int, firstE [a, b, c, d] = 0 → b = 0 := fun a b c d hh => by
      have hh4 : firstE [a, b, c, d] = if a = 0 then (if b = 0 then (if c = 0 then (if d = 0 then 0 else d) else c) else b) else a := rfl
      rw [hh4] at hh
      by_cases h1 : a = 0 <;> by_cases h2 : b = 0 <;> simp_all
    have hb := h4 _ _ _ _ h0
    unfold outE outB at hb
    by_cases hlt : e.nu < 1
    · simp [hlt] at hb
    · omega
  · have hadj : ∀ i a b, l[i]? = some a → l[i + 1]? = some b → befB a b = true := fun i a b hia hib => by
      have := (h1 (i + 1) b hib).2
      simp only [ordE, hia, ordB] at this
      rw [Bool.or_eq_false_iff] at this
      simpa using this.1
    rw [List.pairwise_iff_getElem]
    intro i j hi hj hij
    obtain ⟨d, rfl⟩ : ∃ d, j = i + 1 + d := ⟨j - (i + 1), by omega⟩
    clear hij
    induction d with
    | zero => exact hadj i _ _ (List.getElem?_eq_getElem hi) (List.getElem?_eq_getElem hj)
    | succ d ih =>
      have hj2 : i + 1 + d < l.length := by omega
      exact befB_trans (ih hj2) (hadj (i + 1 + d) _ _ (List.getElem?_eq_getElem hj2) (List.getElem?_eq_getElem hj))
end Go.Proofs.YtbpgifihlppedaaGreatDoor
namespace Go.Proofs.YtbpgifihlppedaaGreatDoor
open Go.RowKit Go.Lib
set_option linter.unusedSimpArgs false
set_option linter.unusedVariables false
/-- entries that are returned -/
structure RetEn (e : Ending) (w' : World) (l : List EnR) : Prop where
  mk' ::
  out : ∃ q c, e = .returned (.slice q l.length c) ∧ (l.length ≤ c ∧ c ≤ maxLen) ∧ EnS w' q l
structure RetMk (e : Ending) (w' : World) (l : List MkR) : Prop where
  mk' ::
  out : ∃ q c, e = .returned (.slice q l.length c) ∧ (l.length ≤ c ∧ c ≤ maxLen) ∧ MkS w' q l
theorem lack_sub (l : List EnR) (v : List MkR) : ∀ e ∈ lackL l v, e ∈ l := fun e he => (List.mem_filter.1 he).1
theorem lack_len (l : List EnR) (v : List MkR) : (lackL l v).length ≤ l.length := List.length_filter_le _ _
set_option maxHeartbeats 4000000 in
set_option maxRecDepth 100000 in
theorem refLack_c {w : World} {q q2 : Option Addr} {l : List EnR} {v : List MkR} {n m cap cap2 : Nat} (hn : n = l.length) (h1 : n ≤ 1000) (hr : EnS w q l) (hm : m = v.length) (h2 : m ≤ 1000) (hv : MkS w q2 v) :
    Calls Tryz.prog 38 #[.slice q n cap, .slice q2 m cap2] w fun e w' => RetEn e w' (lackL l v) ∧ Gr w w' := by
  obtain ⟨i0, hi, hz0, hz1, hz2⟩ := info_parts infoEnR
  have HI0 := Lib.hid (And.intro hi (And.intro hz0 (And.intro hz1 hz2)))
  have HN := Lib.hid hn
  have HM := Lib.hid hm
  have HR := Lib.hid hr.out
  have HV := Lib.hid hv.out
  have HRX : Hid (∀ e ∈ l, RowsX w e.p e.n e.cap e.xs) := fun e he => by
    obtain ⟨i, hi⟩ := List.getElem?_of_mem he
    obtain ⟨b, off, _, hc⟩ := hr.out (by have := (List.getElem?_eq_some_iff.1 hi).1; omega)
    exact (hc i e hi).rows
  clear hr hn hm hv hi hz0 hz1 hz2
  go_enter Tryz.func38, Tryz.ntmps38
  go_wp2_with fail
  go_loopg [5, 6, 7, 8] n (fun gk s5 s6 s7 s8 wr => ∃ i : Nat, s6 = .int .i64 (i : Int) ∧ gk + i = n ∧ Hid (wr.ownsRow w.heap.size 65 7 s5 (lackL (l.take i) v).length (enCs (lackL (l.take i) v))) ∧ Hid (Gr w wr))
  case atStart => exact ⟨0, rfl, by omega, World.ownsRow_nil _ _ _ _, Gr.refl _⟩
  case round =>
    obtain ⟨i, rfl, hgk, HOWN, HG⟩ := hrel
    obtain ⟨g1, rfl⟩ : ∃ g, g = gk := ⟨gk, rfl⟩
    by_cases hlt : i < n
    · obtain ⟨x, hx⟩ : ∃ x, l[i]? = some x := ⟨l[i]'(by have := HN.out; omega), List.getElem?_eq_getElem _⟩
      obtain ⟨b, off, rfl, hc⟩ := HR.out (by have := HN.out; omega)
      have HAT := Lib.hid ((hc i x hx))
      have hlt2 : (i : Int) < (n : Int) := by omega
      have HT : Hid (lackL (l.take (i + 1)) v = if lastN v x.de < x.nu then lackL (l.take i) v ++ [x] else lackL (l.take i) v) := by rw [Hid, List.take_add_one, hx]; exact lackL_add _ _ _
      have HLL : Hid ((lackL (l.take i) v).length ≤ i) := Nat.le_trans (lack_len _ _) (by rw [List.length_take]; omega)
      have HHG := HG
      clear hx hc
      go_wp2_with fail
      go_loopg [7, 8] m (fun gk2 s7 s8 wr2 => ∃ k : Nat, s8 = .int .i64 (k : Int) ∧ s7 = .int .i64 (lastN (v.take k) x.de) ∧ gk2 + k = m ∧ Hid (Gr wr wr2))
      case atStart => exact ⟨0, rfl, rfl, by omega, Gr.refl _⟩
      case round =>
        obtain ⟨k, rfl, rfl, hgk2, HG2⟩ := hrel
        by_cases hlk : k < m
        · obtain ⟨y, hy⟩ : ∃ y, v[k]? = some y := ⟨v[k]'(by have := HM.out; omega), List.getElem?_eq_getElem _⟩
          obtain ⟨b2, o2, rfl, hc2⟩ := HV.out (by have := HM.out; omega)
          obtain ⟨y0, y1⟩ := hc2 k y hy
          have g0 := HHG.out.trans HG2.out
          replace y0 := g0.cell y0
          replace y1 := g0.cell y1
          have x0 := g0.cell HAT.out.c0
          have hlk2 : (k : Int) < (m : Int) := by omega
          have hstep : lastN (v.take (k + 1)) x.de = if (y.de.toList == x.de.toList) = true then y.nu else lastN (v.take k) x.de := by rw [List.take_add_one, hy]; exact lastN_add _ _ _
          clear hy hc2 g0
          generalize lastN (v.take k) x.de = nn at *
          cases he : (y.de.toList == x.de.toList)
          · have HST : Hid (lastN (v.take (k + 1)) x.de = nn) := by rw [Hid, hstep, he]; rfl
            clear hstep
            go_upto_region 9 with fail
            go_big_quiet (fail)
            go_wp2_with fail
            go_roundg (gk - 1)
            case measure => omega
            case rel => exact ⟨k + 1, by go_num, by rw [HST.out], by omega, HG2.out.drewN _⟩
          · have HST : Hid (lastN (v.take (k + 1)) x.de = y.nu) := by rw [Hid, hstep, he]; rfl
            clear hstep
            go_upto_region 9 with fail
            go_big_quiet (fail)
            have y1' := ((Gr.refl wr).drewN 0).cell y1
            go_wp2_with fail
            go_roundg (gk - 1)
            case measure => omega
            case rel => exact ⟨k + 1, by go_num, by rw [HST.out], by omega, HG2.out.drewN _⟩
        · have hlk2 : ¬ (k : Int) < (m : Int) := by omega
          have hvk : v.take k = v := List.take_of_length_le (by have := HM.out; omega)
          rw [hvk]
          have hgW := HHG.out.trans HG2.out
          have hownW := own_kept HOWN.out HG2.out
          obtain ⟨a0, a1, a2, a3, a4, a5, a6, _⟩ := HAT.out.gr hgW
          have hszW := hgW.size
          have hll := HLL.out
          have hT := HT.out
          generalize lackL (l.take i) v = LL at *
          generalize lastN v x.de = nn at *
          by_cases hq : nn < x.nu
          · rw [if_pos hq] at hT
            have HT2 := Lib.hid hT
            obtain ⟨hi, hz0, hz1, hz2⟩ := HI0.out
            obtain ⟨xde, xnu, xck, xro, xva, xst, xp, xn, xc, xxs⟩ := x
            simp only at a0 a1 a2 a3 a4 a5 a6 hq
            clear hT HT hvk
            go_wp2_with (at_builtin; refine wpList_append_own _ rfl _ _ 30 rfl w.heap.size 65 i0 (.agg #[.string ⟨#[]⟩, .int .i64 0, .int .i64 0, .string ⟨#[]⟩, .int .i64 0, .string ⟨#[]⟩, .slice none 0 0]) 7 96 Tryz.underlying30 hi hz0 hz1 hz2 rfl (by decide) _ _ _ rfl (own_kept hownW ((Gr.refl wr).alloc _)) ⟨wr.heap.size, 0, none⟩ 1 1 [.string xde, .int .i64 xnu, .int .i64 xck, .string xro, .int .i64 xva, .string xst, .slice xp xn xc] rfl rfl (cell_seven _ _ _ _ _ _ _ _ _) (one_seven _ _ _ _ _ _ _ _ _) (by unfold maxLen; omega) (by omega) (by simp; omega) ?_; intro v1 w1 hown1 hgrow1 hnil)
            have HGR : Hid (Gr w w1) := Below.grown (hgW.alloc _) hgrow1 (by simp; omega) (fun q hq => (own_in hownW hq).2)
            have HO1 := Lib.hid hown1
            clear hown1 hgrow1 hownW hnil hi hz0 hz1 hz2
            go_wp2_with fail
            go_roundg (g1 - 1)
            case measure => omega
            case rel => exact ⟨i + 1, by go_num, by omega, by rw [HT2.out, enCs_add, List.length_append]; exact HO1.out, HGR⟩
          · rw [if_neg hq] at hT
            have HT2 := Lib.hid hT
            have HOW2 := Lib.hid hownW
            have HGW := Lib.hid hgW
            clear hT HT hvk hownW hgW
            go_wp2_with fail
            go_roundg (g1 - 1)
            case measure => omega
            case rel => exact ⟨i + 1, by go_num, by omega, by rw [HT2.out]; exact HOW2.out, HGW.out⟩
    · obtain rfl : n = i := by omega
      have hlt2 : ¬ (n : Int) < (n : Int) := by omega
      have hli : l.take n = l := List.take_of_length_le (by have := HN.out; omega)
      have ho := HOWN.out
      rw [hli] at ho
      obtain ⟨qq, cc, hsl, hc1, hc2⟩ := own_shape ho
      have HRET : Hid (RetEn (.returned u5) wr (lackL l v)) := by
        rw [hsl] at ho ⊢
        exact ⟨qq, cc, rfl, ⟨hc1, hc2⟩, EnS.of_own ho rfl (fun e he => (HRX.out e (lack_sub l v e he)).gr HG.out)⟩
      clear ho HOWN hsl hc1 hc2
      go_wp2_with fail
      go_ret
      exact ⟨HRET.out, HG.out⟩
end Go.Proofs.YtbpgifihlppedaaGreatDoor
