/- MemberSpares: what the law asks of a pool and of those who are late. -/
import Derived.Test.YtaapaijdcgpdkaaPoC
import Derived.Test.YtaapaijdcgpdkaaTsA
namespace Go.Proofs.Ytaapaijdcgpdkaa
open Go.RowKit Go.Lib
set_option linter.unusedSimpArgs false
set_option linter.unusedVariables false
theorem firstE_bnd : ∀ (l : List Int), (∀ z ∈ l, 0 ≤ z ∧ z ≤ 9) → 0 ≤ firstE l ∧ firstE l ≤ 9
  | [], _ => by simp [firstE]
  | x :: l, h => by
    have h1 := h x (List.mem_cons_self ..)
    have h2 := firstE_bnd l (fun z hz => h z (List.mem_cons_of_mem _ hz))
    simp only [firstE]
    split <;> assumption
theorem errG_bnd {α : Type} (E : Nat → α → Int) (xs : List α) (h : ∀ i x, 0 ≤ E i x ∧ E i x ≤ 9) : ∀ (k i : Nat), 0 ≤ errG E xs k i ∧ errG E xs k i ≤ 9
  | 0, _ => by simp [errG]
  | k + 1, i => by
    have h2 := errG_bnd E xs h k (i + 1)
    unfold errG
    split
    · rename_i x _
      split
      · exact h2
      · exact h i x
    · simp
theorem listE_bnd {α : Type} (m : Nat) (E : Nat → α → Int) (xs : List α) (h : ∀ i x, 0 ≤ E i x ∧ E i x ≤ 9) : 0 ≤ listE m E xs ∧ listE m E xs ≤ 9 := by
  unfold listE
  split
  · omega
  · exact errG_bnd E xs h _ _
theorem nmE_bnd (s : ByteArray) : 0 ≤ nmE s ∧ nmE s ≤ 9 := by
  unfold nmE; split <;> omega
theorem outE_bnd (a b c : Int) : 0 ≤ outE a b c ∧ outE a b c ≤ 9 := by
  unfold outE; split <;> omega
theorem strE_bnd (cs : List ByteArray) (i : Nat) (x : ByteArray) : 0 ≤ strE cs i x ∧ strE cs i x ≤ 9 := by
  unfold strE
  refine firstE_bnd _ (fun z hz => ?_)
  simp only [List.mem_cons, List.not_mem_nil, or_false] at hz
  rcases hz with rfl | rfl
  · exact nmE_bnd x
  · split <;> omega
theorem tstE_bnd (xs : List TstR) (i : Nat) (x : TstR) : 0 ≤ tstE xs i x ∧ tstE xs i x ≤ 9 := by
  unfold tstE
  refine firstE_bnd _ (fun z hz => ?_)
  simp only [List.mem_cons, List.not_mem_nil, or_false] at hz
  rcases hz with rfl | rfl
  · exact nmE_bnd _
  · exact outE_bnd _ _ _
theorem names_nodup {cs : List ByteArray} (h : listE 160 (strE cs) cs = 0) : (cs.map ByteArray.toList).Nodup := by
  unfold listE at h
  split at h
  · cases h
  · rw [List.Nodup, List.pairwise_iff_getElem]
    intro i j hi hj hij e
    rw [List.length_map] at hi hj
    have h0 := errG_zero cs.length 0 h (by omega) j cs[j] (by omega) (by omega) (List.getElem?_eq_getElem hj)
    unfold strE at h0
    have h1 := firstE_zero h0 (if hasS (cs.take j) cs[j] then 9 else 0) (by simp)
    have h2 : hasS (cs.take j) cs[j] = true := by
      unfold hasS
      rw [List.any_eq_true]
      refine ⟨cs[i], List.mem_iff_getElem.2 ⟨i, by rw [List.length_take]; omega, by simp⟩, ?_⟩
      simp only [List.getElem_map] at e
      simp [e]
    rw [h2] at h1
    simp at h1
theorem hasS_apart {l : List ByteArray} (h : (l.map ByteArray.toList).Nodup) {i : Nat} {s : ByteArray} (hi : l[i]? = some s) : hasS (l.take i) s = false := by
  cases hq : hasS (l.take i) s with
  | false => rfl
  | true =>
    unfold hasS at hq
    rw [List.any_eq_true] at hq
    obtain ⟨t, ht, e⟩ := hq
    obtain ⟨j, hj, rfl⟩ := List.mem_iff_getElem.1 ht
    rw [List.length_take] at hj
    obtain ⟨hil, rfl⟩ := List.getElem?_eq_some_iff.1 hi
    rw [List.Nodup, List.pairwise_iff_getElem] at h
    have := h j i (by rw [List.length_map]; omega) (by rw [List.length_map]; omega) (by omega)
    simp only [List.getElem_map] at this
    simp only [List.getElem_take, beq_iff_eq] at e
    exact absurd e.symm this
theorem hasS_mem {l : List ByteArray} {s : ByteArray} (h : s ∈ l) : hasS l s = true := by
  unfold hasS
  rw [List.any_eq_true]
  exact ⟨s, h, by simp⟩
def lastC (xs : List TstR) (d : Int) (s : ByteArray) : Int := lastZ (lastD d s) xs (-1)
/-- what the law asks: A the pool, B the pool of all, Lt those who are late -/
structure SpF (cs : List ByteArray) (xs : List TstR) (c sp d : Int) (A B Lt : List ByteArray) : Prop where
  la : (A.length : Int) = min c (B.length : Int)
  ab : ∀ (i : Nat) (s : ByteArray), A[i]? = some s → B[i]? = some s
  lb : B.length = Lt.length
  lc : B.length ≤ cs.length
  inl : ∀ (i : Nat) (s : ByteArray), B[i]? = some s → hasS Lt s = true
  apart : ∀ (i : Nat) (s : ByteArray), B[i]? = some s → hasS (B.take i) s = false
  free : ∀ (i : Nat) (s : ByteArray), B[i]? = some s → (lastC xs d s < 0 ∨ lastC xs d s < d - sp)
  ord : ∀ (i : Nat) (s t : ByteArray), B[i]? = some s → B[i + 1]? = some t → lastC xs d s ≤ lastC xs d t
  inc : ∀ (i : Nat) (s : ByteArray), Lt[i]? = some s → hasS cs s = true
theorem spares_facts {cs : List ByteArray} {xs : List TstR} {c sp d : Int} {key : Nat} (h : poolE cs xs c sp (key : Int) d = 0) : SpF cs xs c sp d (poolL cs xs c sp key d) (poolL cs xs cs.length sp key d) (lateL xs sp d cs) := by
  obtain ⟨z1, z2, z3, q3, q4⟩ := poolE_zero h
  obtain ⟨⟨c1, c2⟩, ⟨p1, p2⟩, k1, k2⟩ := pickE_zero z3
  have htr := (tst_range z2).2
  have hnd := names_nodup z1
  have hperm := drawnS_perm key cs
  have hlen := drawnS_len key cs
  have hfp : (poolU xs sp d (drawnS key cs)).Perm (lateL xs sp d cs) := by
    have e : lateL xs sp d cs = cs.filter (freeS xs sp d) := by
      unfold lateL
      congr 1
      funext s
      exact late_iff (fun x hx => (htr x hx).1) s sp d
    rw [e]
    exact hperm.filter _
  have hfree : ∀ s ∈ poolU xs sp d (drawnS key cs), s ∈ cs ∧ (lastC xs d s < 0 ∨ lastC xs d s < d - sp) := fun s hs => by
    unfold poolU at hs
    rw [List.mem_filter] at hs
    refine ⟨hperm.mem_iff.1 hs.1, ?_⟩
    have := hs.2
    unfold freeS at this
    simpa [lastC] using this
  have hle : (poolU xs sp d (drawnS key cs)).length ≤ cs.length := by
    have := poolU_len xs sp d (drawnS key cs)
    omega
  obtain ⟨sp1, sp2, sp3⟩ := srtM_spec (lastM cs xs d) (poolU xs sp d (drawnS key cs))
  unfold poolL
  generalize poolU xs sp d (drawnS key cs) = F at *
  generalize srtM (lastM cs xs d) F = S at *
  rw [show S.take (min (cs.length : Int) (F.length : Int)).toNat = S from List.take_of_length_le (by omega)]
  have hin : ∀ (i : Nat) (s : ByteArray), S[i]? = some s → s ∈ F := fun i s hs => sp1.mem_iff.1 (List.mem_of_getElem? hs)
  have hday : ∀ s ∈ F, dayM (lastM cs xs d) s = lastC xs d s := fun s hs => by
    unfold dayM
    rw [look_last (hfree s hs).1]
    rfl
  have hsn : (S.map ByteArray.toList).Nodup := by
    have h1 : (S.map ByteArray.toList).Perm ((lateL xs sp d cs).map ByteArray.toList) := (sp1.trans hfp).map _
    rw [h1.nodup_iff]
    unfold lateL
    exact List.Nodup.sublist (List.Sublist.map _ List.filter_sublist) hnd
  refine ⟨?_, ?_, ?_, ?_, ?_, ?_, ?_, ?_, ?_⟩
  · rw [List.length_take]; omega
  · intro i s hs
    rw [List.getElem?_take] at hs
    split at hs
    · exact hs
    · cases hs
  · rw [sp2, hfp.length_eq]
  · omega
  · intro i s hs
    exact hasS_mem (hfp.mem_iff.1 (hin i s hs))
  · intro i s hs
    exact hasS_apart hsn hs
  · intro i s hs
    exact (hfree s (hin i s hs)).2
  · intro i s t hs ht
    have := sp3 i (i + 1) s t (by omega) hs ht
    rw [hday s (hin _ _ hs), hday t (hin _ _ ht)] at this
    exact this
  · intro i s hs
    have hm := List.mem_of_getElem? hs
    unfold lateL at hm
    exact hasS_mem (List.mem_filter.1 hm).1
theorem poolE_all {cs : List ByteArray} {xs : List TstR} {c sp key d : Int} (h : poolE cs xs c sp key d = 0) : poolE cs xs cs.length sp key d = 0 := by
  obtain ⟨z1, z2, z3, q3, q4⟩ := poolE_zero h
  have hcl := str_len z1
  unfold pickE at z3
  have d1 := firstE_zero z3 (drawE key 0) (by simp)
  have d2 := firstE_zero z3 (outE sp 0 99999) (by simp)
  unfold poolE pickE
  rw [z1, z2, d1, d2, outE_zero.2 ⟨by omega, by omega⟩, outE_zero.2 ⟨q3, q4⟩]
  rfl
theorem lateE_of {cs : List ByteArray} {xs : List TstR} {c sp key d : Int} (h : poolE cs xs c sp key d = 0) : lateE cs xs sp d = 0 := by
  obtain ⟨z1, z2, z3, q3, q4⟩ := poolE_zero h
  unfold pickE at z3
  have d2 := firstE_zero z3 (outE sp 0 99999) (by simp)
  unfold lateE
  rw [z1, z2, d2, outE_zero.2 ⟨q3, q4⟩]
  rfl
theorem poolE_of {cs : List ByteArray} {xs : List TstR} {c sp key d : Int} (h1 : listE 160 (strE cs) cs = 0) (h2 : listE 256 (tstE xs) xs = 0) (h3 : pickE c sp key = 0) (h4 : outE d 0 99999 = 0) : poolE cs xs c sp key d = 0 := by
  unfold poolE
  rw [h1, h2, h3, h4]
  rfl
end Go.Proofs.Ytaapaijdcgpdkaa
namespace Go.Proofs.Ytaapaijdcgpdkaa
open Go.RowKit Go.Lib
set_option linter.unusedSimpArgs false
set_option linter.unusedVariables false
open Go.Sort Go.Shelf in
theorem insOuter_id {α : Type} [Inhabited α] (lt : α → α → Bool) (b : Nat) (d : Array α) (h : ∀ i, i + 1 < b → lt d[i + 1]! d[i]! = false) : ∀ (k i : Nat), b - i = k → 0 < i → insOuter lt 0 b i d = d
  | 0, i, hk, _ => by rw [insOuter_stop _ _ _ _ _ (by omega)]
  | k + 1, i, hk, h0 => by
    rw [insOuter_go _ _ _ _ _ (by omega), insInner_stop _ _ _ _ (.inr (by
      have := h (i - 1) (by omega)
      rwa [show i - 1 + 1 = i by omega] at this))]
    exact insOuter_id lt b d h k (i + 1) (by omega) (by omega)
theorem srtM_id (m : List (ByteArray × Int)) (l : List ByteArray) (h : ∀ i s t, l[i]? = some s → l[i + 1]? = some t → dayM m s ≤ dayM m t) : srtM m l = l := by
  unfold srtM Go.Sort.insertionSort
  rw [insOuter_id (ltOf (cmpM m)) l.length l.toArray (fun i hi => ?_) (l.length - 1) 1 rfl (by omega)]
  rw [lt_cmpM, decide_eq_false_iff_not, getElem!_pos l.toArray (i + 1) (by simpa using hi), getElem!_pos l.toArray i (by simp; omega)]
  have := h i l[i] l[i + 1] (List.getElem?_eq_getElem (by omega)) (List.getElem?_eq_getElem hi)
  simp only [List.getElem_toArray]
  omega
theorem lastZ_perm {Q : TstR → Bool} {l l' : List TstR} (h : l.Perm l') : ∀ m, lastZ Q l m = lastZ Q l' m := by
  induction h with
  | nil => intro m; rfl
  | cons x _ ih => intro m; exact ih _
  | swap x y l =>
    intro m
    simp only [lastZ]
    congr 1
    cases Q x <;> cases Q y <;> simp <;> omega
  | trans _ _ ih1 ih2 => intro m; rw [ih1, ih2]
theorem lastZ_none {Q : TstR → Bool} : ∀ (l : List TstR) (m : Int), (∀ x ∈ l, Q x = false) → lastZ Q l m = m
  | [], _, _ => rfl
  | x :: l, m, h => by
    simp only [lastZ, h x (List.mem_cons_self ..)]
    exact lastZ_none l m (fun y hy => h y (List.mem_cons_of_mem _ hy))
theorem lastZ_mem {Q : TstR → Bool} : ∀ (l : List TstR) (m : Int) (x : TstR), x ∈ l → Q x = true → x.dy ≤ lastZ Q l m
  | y :: l, m, x, h, hq => by
    rcases List.mem_cons.1 h with rfl | h
    · simp only [lastZ, hq, if_true]
      have := lastZ_ge Q l (max m x.dy)
      omega
    · exact lastZ_mem l _ x h hq
theorem look_none {cs : List ByteArray} {s : ByteArray} (h : ∀ t ∈ cs, t.toList ≠ s.toList) (d : Int) : ∀ (xs : List TstR) (m : List (ByteArray × Int)), lookM m s = none → lookM (xs.foldl (stepM d) m) s = none
  | [], m, h0 => h0
  | x :: xs, m, h0 => by
    rw [List.foldl_cons]
    refine look_none h d xs _ ?_
    unfold stepM
    cases hl : lookM m x.nm with
    | none => exact h0
    | some v =>
      simp only []
      split
      · rw [lookM_put]
        cases hb : (x.nm.toList == s.toList) with
        | false => simpa using h0
        | true =>
          rw [lookM_congr (by simpa using hb), h0] at hl
          cases hl
      · exact h0
theorem dayM_of {cs : List ByteArray} {xs : List TstR} {d : Int} {s : ByteArray} (hs : s ∈ cs) : dayM (lastM cs xs d) s = lastC xs d s := by
  unfold dayM
  rw [look_last hs]
  rfl
theorem dayM_out {cs : List ByteArray} {xs : List TstR} {d : Int} {s : ByteArray} (hs : ∀ t ∈ cs, t.toList ≠ s.toList) : dayM (lastM cs xs d) s = 0 := by
  unfold dayM lastM
  rw [look_none hs]
  · rfl
  · unfold lastM0
    rw [lookM0_gen, if_neg]
    · rfl
    · intro h
      rw [List.any_eq_true] at h
      obtain ⟨t, ht, e⟩ := h
      exact hs t ht (by simpa using e)
theorem tol_inj {s t : ByteArray} (h : s.toList = t.toList) : s = t := by
  rw [ByteArray.toList_eq, ByteArray.toList_eq] at h
  exact ByteArray.ext (Array.toList_inj.1 h)
theorem cmpM_same {cs : List ByteArray} {xs ys : List TstR} {d : Int} (h : ∀ s ∈ cs, lastC xs d s = lastC ys d s) : cmpM (lastM cs xs d) = cmpM (lastM cs ys d) := by
  have : ∀ s, dayM (lastM cs xs d) s = dayM (lastM cs ys d) s := fun s => by
    by_cases hs : ∃ t ∈ cs, t.toList = s.toList
    · obtain ⟨t, ht, e⟩ := hs
      obtain rfl := tol_inj e
      rw [dayM_of ht, dayM_of ht, h _ ht]
    · have h2 : ∀ t ∈ cs, t.toList ≠ s.toList := fun t ht e => hs ⟨t, ht, e⟩
      rw [dayM_out h2, dayM_out h2]
  funext a b
  unfold cmpM
  rw [this, this]
theorem srtM_same {cs : List ByteArray} {xs ys : List TstR} {d : Int} (h : ∀ s ∈ cs, lastC xs d s = lastC ys d s) (l : List ByteArray) : srtM (lastM cs xs d) l = srtM (lastM cs ys d) l := by
  unfold srtM
  rw [cmpM_same h]
theorem poolU_same {cs : List ByteArray} {xs ys : List TstR} {sp d : Int} (h : ∀ s ∈ cs, lastC xs d s = lastC ys d s) (key : Nat) : poolU xs sp d (drawnS key cs) = poolU ys sp d (drawnS key cs) := by
  unfold poolU
  refine List.filter_congr fun s hs => ?_
  have := h s ((drawnS_perm key cs).mem_iff.1 hs)
  unfold lastC at this
  unfold freeS
  rw [this]
theorem poolL_same {cs : List ByteArray} {xs ys : List TstR} {c sp d : Int} {key : Nat} (h : ∀ s ∈ cs, lastC xs d s = lastC ys d s) : poolL cs xs c sp key d = poolL cs ys c sp key d := by
  unfold poolL
  rw [poolU_same h, srtM_same h]
/-- a test of nobody of the list, put behind the tests turned round -/
theorem lastC_back {cs : List ByteArray} {xs : List TstR} {d : Int} {t : TstR} (ht : ∀ s ∈ cs, s.toList ≠ t.nm.toList) : ∀ s ∈ cs, lastC xs d s = lastC (xs.reverse ++ [t]) d s := fun s hs => by
  unfold lastC
  rw [lastZ_add, show lastD d s t = false by unfold lastD; rw [beq_eq_false_iff_ne.2 (fun e => ht s hs e.symm)]; rfl]
  simp only [Bool.false_eq_true, if_false]
  exact lastZ_perm (List.reverse_perm xs).symm _
theorem lastC_nil (d : Int) (s : ByteArray) : lastC [] d s = -1 := rfl
/-- nobody is spared, nobody has been tested: the drawn order -/
theorem pool_fresh {cs : List ByteArray} {xs : List TstR} {c sp d : Int} {key : Nat} {F : List ByteArray} (hF : poolU xs sp d (drawnS key cs) = F) (h : ∀ s ∈ F, lastC xs d s = -1) : poolL cs xs c sp key d = F.take (min c (F.length : Int)).toNat := by
  unfold poolL
  rw [hF]
  have hin : ∀ s ∈ F, s ∈ cs := fun s hs => by
    rw [← hF] at hs
    unfold poolU at hs
    exact (drawnS_perm key cs).mem_iff.1 (List.mem_filter.1 hs).1
  rw [srtM_id]
  intro i s t hs ht
  have h1 := List.mem_of_getElem? hs
  have h2 := List.mem_of_getElem? ht
  rw [dayM_of (hin s h1), dayM_of (hin t h2), h s h1, h t h2]
  exact Int.le_refl _
theorem pool_none (cs : List ByteArray) (key : Nat) (d : Int) : poolL cs [] cs.length 0 key d = drawnS key cs := by
  rw [pool_fresh (F := drawnS key cs) (List.filter_eq_self.2 (fun s _ => rfl)) (fun s _ => rfl)]
  have := drawnS_len key cs
  exact List.take_of_length_le (by omega)
/-- the tests of the first k of the drawn order, two a day from the day 100 on -/
def tstK (D : List ByteArray) (k : Nat) : List TstR := (List.range k).map fun j => ⟨D.getD j ⟨#[]⟩, 100 + ((j / 2 : Nat) : Int)⟩
theorem tstK_succ (D : List ByteArray) (k : Nat) : tstK D (k + 1) = tstK D k ++ [⟨D.getD k ⟨#[]⟩, 100 + ((k / 2 : Nat) : Int)⟩] := by
  simp [tstK, List.range_succ]
theorem tstK_len (D : List ByteArray) (k : Nat) : (tstK D k).length = k := by simp [tstK]
theorem getD_of {D : List ByteArray} {i : Nat} {s : ByteArray} (h : D[i]? = some s) : D.getD i ⟨#[]⟩ = s := by
  rw [List.getD_eq_getElem?_getD, h]; rfl
theorem apart_at {D : List ByteArray} (hn : (D.map ByteArray.toList).Nodup) {i j : Nat} {s t : ByteArray} (hi : D[i]? = some s) (hj : D[j]? = some t) (e : s.toList = t.toList) : i = j := by
  obtain ⟨hil, rfl⟩ := List.getElem?_eq_some_iff.1 hi
  obtain ⟨hjl, rfl⟩ := List.getElem?_eq_some_iff.1 hj
  rw [List.Nodup, List.pairwise_iff_getElem] at hn
  rcases Nat.lt_trichotomy i j with h | h | h
  · have := hn i j (by rw [List.length_map]; omega) (by rw [List.length_map]; omega) h
    simp only [List.getElem_map] at this
    exact absurd e this
  · exact h
  · have := hn j i (by rw [List.length_map]; omega) (by rw [List.length_map]; omega) h
    simp only [List.getElem_map] at this
    exact absurd e.symm this
theorem lastC_in {D : List ByteArray} (k r i : Nat) (hi : i < k) (h : i / 2 ≤ r) {s : ByteArray} (hs : D[i]? = some s) : 100 ≤ lastC (tstK D k) (100 + (r : Int)) s := by
  have hm : (⟨D.getD i ⟨#[]⟩, 100 + ((i / 2 : Nat) : Int)⟩ : TstR) ∈ tstK D k := by
    unfold tstK
    exact List.mem_map.2 ⟨i, List.mem_range.2 hi, rfl⟩
  have := lastZ_mem (Q := lastD (100 + (r : Int)) s) (tstK D k) (-1) _ hm (by
    unfold lastD
    rw [getD_of hs]
    simp
    omega)
  simp only at this
  unfold lastC
  omega
theorem lastC_not {D : List ByteArray} (hn : (D.map ByteArray.toList).Nodup) (k : Nat) (hk : k ≤ D.length) (d : Int) (i : Nat) (hi : k ≤ i) {s : ByteArray} (hs : D[i]? = some s) : lastC (tstK D k) d s = -1 := by
  unfold lastC
  refine lastZ_none _ _ fun x hx => ?_
  unfold tstK at hx
  obtain ⟨j, hj, rfl⟩ := List.mem_map.1 hx
  rw [List.mem_range] at hj
  unfold lastD
  have : ((D.getD j ⟨#[]⟩).toList == s.toList) = false := by
    rw [beq_eq_false_iff_ne]
    intro e
    have hd : D[j]? = some (D.getD j ⟨#[]⟩) := by
      rw [List.getD_eq_getElem?_getD, List.getElem?_eq_getElem (by omega)]; rfl
    have := apart_at hn hd hs e
    omega
  rw [this]
  rfl
/-- on the r-th day the pool is the next two of the drawn order -/
theorem pool_day {cs : List ByteArray} {key : Nat} (hn : (cs.map ByteArray.toList).Nodup) (h8 : cs.length ≤ 8) (r k : Nat) (hk : k = min (2 * r) cs.length) (hr : 2 * r ≤ 10) :
    poolL cs (tstK (drawnS key cs) k) 2 50 key (100 + (r : Int)) = ((drawnS key cs).drop k).take 2 := by
  have hperm := drawnS_perm key cs
  have hlen := drawnS_len key cs
  have hnd : ((drawnS key cs).map ByteArray.toList).Nodup := (hperm.map ByteArray.toList).nodup_iff.2 hn
  generalize hD : drawnS key cs = D at *
  have hF : poolU (tstK D k) 50 (100 + (r : Int)) D = D.drop k := by
    unfold poolU
    conv => lhs; rw [← List.take_append_drop k D]
    rw [List.filter_append, List.filter_eq_nil_iff.2, List.filter_eq_self.2, List.nil_append]
    · rw [List.take_append_drop]
      intro s hs
      obtain ⟨j, hj, rfl⟩ := List.mem_iff_getElem.1 hs
      have e := lastC_not hnd k (by omega) (100 + (r : Int)) (k + j) (by omega) (s := (D.drop k)[j]) (by rw [← List.getElem?_drop]; exact List.getElem?_eq_getElem hj)
      unfold lastC at e
      unfold freeS
      rw [e]
      rfl
    · rw [List.take_append_drop]
      intro s hs
      obtain ⟨j, hj, rfl⟩ := List.mem_iff_getElem.1 hs
      rw [List.length_take] at hj
      have e := lastC_in (D := D) k r j (by omega) (by omega) (s := D[j]'(by omega)) (List.getElem?_eq_getElem (by omega))
      unfold lastC at e
      unfold freeS
      simp
      omega
  rw [← hD] at hF ⊢
  rw [pool_fresh (F := (drawnS key cs).drop k) hF]
  · by_cases h2 : ((drawnS key cs).drop k).length ≤ 2
    · rw [List.take_of_length_le (by omega), List.take_of_length_le h2]
    · rw [show (min (2 : Int) (((drawnS key cs).drop k).length : Int)).toNat = 2 by omega]
  · intro s hs
    rw [hD] at hs ⊢
    obtain ⟨j, hj, rfl⟩ := List.mem_iff_getElem.1 hs
    exact lastC_not hnd k (by omega) (100 + (r : Int)) (k + j) (by omega) (by rw [← List.getElem?_drop]; exact List.getElem?_eq_getElem hj)
theorem errG_all {α : Type} {E : Nat → α → Int} {xs : List α} (h : ∀ i x, xs[i]? = some x → E i x = 0) : ∀ (k i : Nat), errG E xs k i = 0
  | 0, _ => rfl
  | k + 1, i => by
    unfold errG
    cases hx : xs[i]? with
    | none => rfl
    | some x =>
      simp only []
      rw [if_pos (h i x hx)]
      exact errG_all h k (i + 1)
theorem listE_all {α : Type} {m : Nat} {E : Nat → α → Int} {xs : List α} (hl : xs.length ≤ m) (h : ∀ i x, xs[i]? = some x → E i x = 0) : listE m E xs = 0 := by
  unfold listE
  rw [if_neg (by omega)]
  exact errG_all h _ _
theorem tstE_ok {xs : List TstR} (hl : xs.length ≤ 256) (h : ∀ x ∈ xs, nmE x.nm = 0 ∧ 0 ≤ x.dy ∧ x.dy ≤ 99999) : listE 256 (tstE xs) xs = 0 := by
  refine listE_all hl fun i x hx => ?_
  obtain ⟨h1, h2, h3⟩ := h x (List.mem_of_getElem? hx)
  unfold tstE
  rw [h1, outE_zero.2 ⟨h2, h3⟩]
  rfl
theorem tst_names {xs : List TstR} (h : listE 256 (tstE xs) xs = 0) : ∀ x ∈ xs, nmE x.nm = 0 := fun x hx => by
  have hl := (tst_range h).1
  unfold listE at h
  rw [if_neg (by omega)] at h
  obtain ⟨i, hi, rfl⟩ := List.mem_iff_getElem.1 hx
  have h0 := errG_zero xs.length 0 h (by omega) i xs[i] (by omega) (by omega) (List.getElem?_eq_getElem hi)
  unfold tstE at h0
  exact firstE_zero h0 (nmE xs[i].nm) (by simp)
theorem str_names {cs : List ByteArray} (h : listE 160 (strE cs) cs = 0) : ∀ s ∈ cs, nmE s = 0 := fun s hs => by
  have hl := str_len h
  unfold listE at h
  rw [if_neg (by omega)] at h
  obtain ⟨i, hi, rfl⟩ := List.mem_iff_getElem.1 hs
  have h0 := errG_zero cs.length 0 h (by omega) i cs[i] (by omega) (by omega) (List.getElem?_eq_getElem hi)
  unfold strE at h0
  exact firstE_zero h0 (nmE cs[i]) (by simp)
def nobody : ByteArray := ⟨#[110, 111, 98, 111, 100, 121, 57]⟩
theorem nobody_ok : nmE nobody = 0 := by
  unfold nmE
  exact if_pos (of_decide_eq_true (by kernel_rfl))
theorem back_ok {xs : List TstR} (hl : xs.length ≤ 12) (h : listE 256 (tstE xs) xs = 0) : listE 256 (tstE (xs.reverse ++ [⟨nobody, 30⟩])) (xs.reverse ++ [⟨nobody, 30⟩]) = 0 := by
  refine tstE_ok (by simp; omega) fun x hx => ?_
  rw [List.mem_append, List.mem_reverse, List.mem_singleton] at hx
  rcases hx with hx | rfl
  · exact ⟨tst_names h x hx, (tst_range h).2 x hx⟩
  · exact ⟨nobody_ok, by simp, by simp⟩
theorem tstK_ok {cs : List ByteArray} {key : Nat} (hc : listE 160 (strE cs) cs = 0) (h8 : cs.length ≤ 8) (k : Nat) (hk : k ≤ cs.length) : listE 256 (tstE (tstK (drawnS key cs) k)) (tstK (drawnS key cs) k) = 0 := by
  refine tstE_ok (by rw [tstK_len]; omega) fun x hx => ?_
  unfold tstK at hx
  obtain ⟨j, hj, rfl⟩ := List.mem_map.1 hx
  rw [List.mem_range] at hj
  have hlen := drawnS_len key cs
  have hd : (drawnS key cs)[j]? = some ((drawnS key cs).getD j ⟨#[]⟩) := by
    rw [List.getD_eq_getElem?_getD, List.getElem?_eq_getElem (by omega)]; rfl
  exact ⟨str_names hc _ ((drawnS_perm key cs).mem_iff.1 (List.mem_of_getElem? hd)), by simp; omega, by simp; omega⟩
end Go.Proofs.Ytaapaijdcgpdkaa
namespace Go.Proofs.Ytaapaijdcgpdkaa
open Go.RowKit Go.Lib
set_option linter.unusedSimpArgs false
set_option linter.unusedVariables false
def tstC (x : TstR) : List Value := [.string x.nm, .int .i64 x.dy]
def tstCs (xs : List TstR) : List Value := xs.flatMap tstC
theorem tstCs_len (xs : List TstR) : (tstCs xs).length = xs.length * 2 := by
  induction xs with
  | nil => rfl
  | cons x xs ih => simp only [tstCs, List.flatMap_cons, List.length_append, List.length_cons] at *; rw [ih]; simp [tstC]; omega
theorem tstCs_add (xs : List TstR) (x : TstR) : tstCs (xs ++ [x]) = tstCs xs ++ tstC x := by simp [tstCs]
theorem tstCs_take {xs : List TstR} {k : Nat} {x : TstR} (h : xs[k]? = some x) : tstCs (xs.take (k + 1)) = tstCs (xs.take k) ++ tstC x := by
  rw [List.take_add_one, h]
  simp [tstCs]
theorem tstCs_at {xs : List TstR} {i : Nat} {x : TstR} (h : xs[i]? = some x) (j : Nat) (hj : j < 2) : (tstCs xs)[i * 2 + j]? = (tstC x)[j]? := by
  induction xs generalizing i with
  | nil => simp at h
  | cons y ys ih =>
    have e : tstCs (y :: ys) = tstC y ++ tstCs ys := rfl
    rw [e]
    cases i with
    | zero =>
      simp only [List.getElem?_cons_zero, Option.some.injEq] at h
      subst h
      rw [show 0 * 2 + j = j by omega, List.getElem?_append_left (by simp [tstC]; omega)]
    | succ i =>
      rw [List.getElem?_append_right (by simp [tstC]; omega)]
      have := ih (i := i) (by simpa using h)
      rw [← this]
      congr 1
      simp [tstC]; omega
theorem TstAts_of_owns {w : World} {base : Nat} {v : Value} {xs : List TstR} {T : TypeId} {n : Nat} (hn : xs.length = n) (h : w.ownsRow base T 2 v n (tstCs xs)) : TstAts w v xs := by
  subst hn
  rcases h.2 with ⟨rfl, h0⟩ | ⟨g, cap, cur, rfl, _, _, hle, hmx, _, _⟩
  · exact ⟨none, 0, by rw [h0], ⟨by omega, by unfold maxLen; omega⟩, fun h => by omega⟩
  · refine ⟨some ⟨g, 0, none⟩, cap, rfl, ⟨hle, hmx⟩, fun _ => ⟨g, 0, rfl, fun i x hx => ?_⟩⟩
    have e : ∀ j, (⟨g, 0, none⟩ : Addr).add j = ⟨g, j, none⟩ := fun j => by unfold Addr.add; split <;> simp_all
    have c0 := h.cells (g := g) rfl (i * 2 + 0) (.string x.nm) (by rw [tstCs_at hx 0 (by omega)]; rfl)
    have c1 := h.cells (g := g) rfl (i * 2 + 1) (.int .i64 x.dy) (by rw [tstCs_at hx 1 (by omega)]; rfl)
    rw [e] at c0 c1
    exact ⟨by simpa using c0, by simpa using c1⟩
theorem cell_tstC (w : World) (x : TstR) (T : TypeId) : ∀ (j : Nat) (u : Value), (tstC x)[j]? = some u → (w.alloc (.cells #[.string x.nm, .int .i64 x.dy] T)).cell? ((⟨w.heap.size, 0, none⟩ : Addr).add j) = some u := by
  intro j u h
  unfold tstC at h
  have e : (⟨w.heap.size, 0, none⟩ : Addr).add j = ⟨w.heap.size, j, none⟩ := by unfold Addr.add; split <;> simp_all
  rw [e]
  rcases j with _ | _ | j
  · simp at h; subst h; exact cell_new w #[.string x.nm, .int .i64 x.dy] T 0 (by simp)
  · simp at h; subst h; exact cell_new w #[.string x.nm, .int .i64 x.dy] T 1 (by simp)
  · simp at h
theorem infoTst : (Try.prog.info? 45).map (fun i => (i.zero, i.size, i.bytes)) = some (some (.agg #[.string ⟨#[]⟩, .int .i64 0]), 2, 24) := by kernel_rfl
end Go.Proofs.Ytaapaijdcgpdkaa
