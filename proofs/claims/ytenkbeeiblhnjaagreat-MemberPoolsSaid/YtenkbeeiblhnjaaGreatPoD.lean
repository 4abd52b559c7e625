/- MemberSpares: what the law asks of a pool and of those who are late. -/
import Derived.Test.YtenkbeeiblhnjaaGreatPoC
namespace Go.Proofs.YtenkbeeiblhnjaaGreat
open Go.RowKit Go.Lib
set_option linter.unusedSimpArgs false
set_option linter.unusedVariables false
theorem firstE_bnd : ∀ (l : List Int), (∀ z ∈ l, 0 ≤ z ∧ z ≤ 9) → 0 ≤ firstE l ∧ firstE l ≤ 9
  | [], _ => by simp [firstE]
  | x :: l, h => by
    have h1 := h x (List.mem_cons_self ..)
    have h2 := firstE_bnd l (fun z hz => h z (List.mem_cons_of_mem _ hz))
    simp only [firstE]
    split <;> assumption
theorem errG_bnd {α : Type} (E : Nat → α → Int) (xs : List α) (h : ∀ i x, 0 ≤ E i x ∧ E i x ≤ 9) : ∀ (k i : Nat), 0 ≤ errG E xs k i ∧ errG E xs k i ≤ 9
  | 0, _ => by simp [errG]
  | k + 1, i => by
    have h2 := errG_bnd E xs h k (i + 1)
    unfold errG
    split
    · rename_i x _
      split
      · exact h2
      · exact h i x
    · simp
theorem listE_bnd {α : Type} (m : Nat) (E : Nat → α → Int) (xs : List α) (h : ∀ i x, 0 ≤ E i x ∧ E i x ≤ 9) : 0 ≤ listE m E xs ∧ listE m E xs ≤ 9 := by
  unfold listE
  split
  · omega
  · exact errG_bnd E xs h _ _
theorem nmE_bnd (s : ByteArray) : 0 ≤ nmE s ∧ nmE s ≤ 9 := by
  unfold nmE; split <;> omega
theorem outE_bnd (a b c : Int) : 0 ≤ outE a b c ∧ outE a b c ≤ 9 := by
  unfold outE; split <;> omega
theorem strE_bnd (cs : List ByteArray) (i : Nat) (x : ByteArray) : 0 ≤ strE cs i x ∧ strE cs i x ≤ 9 := by
  unfold strE
  refine firstE_bnd _ (fun z hz => ?_)
  simp only [List.mem_cons, List.not_mem_nil, or_false] at hz
  rcases hz with rfl | rfl
  · exact nmE_bnd x
  · split <;> omega
theorem tstE_bnd (xs : List TstR) (i : Nat) (x : TstR) : 0 ≤ tstE xs i x ∧ tstE xs i x ≤ 9 := by
  unfold tstE
  refine firstE_bnd _ (fun z hz => ?_)
  simp only [List.mem_cons, List.not_mem_nil, or_false] at hz
  rcases hz with rfl | rfl
  · exact nmE_bnd _
  · exact outE_bnd _ _ _
theorem names_nodup {cs : List ByteArray} (h : listE 160 (strE cs) cs = 0) : (cs.map ByteArray.toList).Nodup := by
  unfold listE at h
  split at h
  · cases h
  · rw [List.Nodup, List.pairwise_iff_getElem]
    intro i j hi hj hij e
    rw [List.length_map] at hi hj
    have h0 := errG_zero cs.length 0 h (by omega) j cs[j] (by omega) (by omega) (List.getElem?_eq_getElem hj)
    unfold strE at h0
    have h1 := firstE_zero h0 (if hasS (cs.take j) cs[j] then 9 else 0) (by simp)
    have h2 : hasS (cs.take j) cs[j] = true := by
      unfold hasS
      rw [List.any_eq_true]
      refine ⟨cs[i], List.mem_iff_getElem.2 ⟨i, by rw [List.length_take]; omega, by simp⟩, ?_⟩
      simp only [List.getElem_map] at e
      simp [e]
    rw [h2] at h1
    simp at h1
theorem hasS_apart {l : List ByteArray} (h : (l.map ByteArray.toList).Nodup) {i : Nat} {s : ByteArray} (hi : l[i]? = some s) : hasS (l.take i) s = false := by
  cases hq : hasS (l.take i) s with
  | false => rfl
  | true =>
    unfold hasS at hq
    rw [List.any_eq_true] at hq
    obtain ⟨t, ht, e⟩ := hq
    obtain ⟨j, hj, rfl⟩ := List.mem_iff_getElem.1 ht
    rw [List.length_take] at hj
    obtain ⟨hil, rfl⟩ := List.getElem?_eq_some_iff.1 hi
    rw [List.Nodup, List.pairwise_iff_getElem] at h
    have := h j i (by rw [List.length_map]; omega) (by rw [List.length_map]; omega) (by omega)
    simp only [List.getElem_map] at this
    simp only [List.getElem_take, beq_iff_eq] at e
    exact absurd e.symm this
theorem hasS_mem {l : List ByteArray} {s : ByteArray} (h : s ∈ l) : hasS l s = true := by
  unfold hasS
  rw [List.any_eq_true]
  exact ⟨s, h, by simp⟩
def lastC (xs : List TstR) (d : Int) (s : ByteArray) : Int := lastZ (lastD d s) xs (-1)
/-- what the law asks: A the pool, B the pool of all, Lt those who are late -/
structure SpF (cs : List ByteArray) (xs : List TstR) (c sp d : Int) (A B Lt : List ByteArray) : Prop where
  la : (A.length : Int) = min c (B.length : Int)
  ab : ∀ (i : Nat) (s : ByteArray), A[i]? = some s → B[i]? = some s
  lb : B.length = Lt.length
  lc : B.length ≤ cs.length
  inl : ∀ (i : Nat) (s : ByteArray), B[i]? = some s → hasS Lt s = true
  apart : ∀ (i : Nat) (s : ByteArray), B[i]? = some s → hasS (B.take i) s = false
  free : ∀ (i : Nat) (s : ByteArray), B[i]? = some s → (lastC xs d s < 0 ∨ lastC xs d s < d - sp)
  ord : ∀ (i : Nat) (s t : ByteArray), B[i]? = some s → B[i + 1]? = some t → lastC xs d s ≤ lastC xs d t
  inc : ∀ (i : Nat) (s : ByteArray), Lt[i]? = some s → hasS cs s = true
theorem spares_facts {cs : List ByteArray} {xs : List TstR} {c sp d : Int} {key : Nat} (h : poolE cs xs c sp (key : Int) d = 0) : SpF cs xs c sp d (poolL cs xs c sp key d) (poolL cs xs cs.length sp key d) (lateL xs sp d cs) := by
  obtain ⟨z1, z2, z3, q3, q4⟩ := poolE_zero h
  obtain ⟨⟨c1, c2⟩, ⟨p1, p2⟩, k1, k2⟩ := pickE_zero z3
  have htr := (tst_range z2).2
  have hnd := names_nodup z1
  have hperm := drawnS_perm key cs
  have hlen := drawnS_len key cs
  have hfp : (poolU xs sp d (drawnS key cs)).Perm (lateL xs sp d cs) := by
    have e : lateL xs sp d cs = cs.filter (freeS xs sp d) := by
      unfold lateL
      congr 1
      funext s
      exact late_iff (fun x hx => (htr x hx).1) s sp d
    rw [e]
    exact hperm.filter _
  have hfree : ∀ s ∈ poolU xs sp d (drawnS key cs), s ∈ cs ∧ (lastC xs d s < 0 ∨ lastC xs d s < d - sp) := fun s hs => by
    unfold poolU at hs
    rw [List.mem_filter] at hs
    refine ⟨hperm.mem_iff.1 hs.1, ?_⟩
    have := hs.2
    unfold freeS at this
    simpa [lastC] using this
  have hle : (poolU xs sp d (drawnS key cs)).length ≤ cs.length := by
    have := poolU_len xs sp d (drawnS key cs)
    omega
  obtain ⟨sp1, sp2, sp3⟩ := srtM_spec (lastM cs xs d) (poolU xs sp d (drawnS key cs))
  unfold poolL
  generalize poolU xs sp d (drawnS key cs) = F at *
  generalize srtM (lastM cs xs d) F = S at *
  rw [show S.take (min (cs.length : Int) (F.length : Int)).toNat = S from List.take_of_length_le (by omega)]
  have hin : ∀ (i : Nat) (s : ByteArray), S[i]? = some s → s ∈ F := fun i s hs => sp1.mem_iff.1 (List.mem_of_getElem? hs)
  have hday : ∀ s ∈ F, dayM (lastM cs xs d) s = lastC xs d s := fun s hs => by
    unfold dayM
    rw [look_last (hfree s hs).1]
    rfl
  have hsn : (S.map ByteArray.toList).Nodup := by
    have h1 : (S.map ByteArray.toList).Perm ((lateL xs sp d cs).map ByteArray.toList) := (sp1.trans hfp).map _
    rw [h1.nodup_iff]
    unfold lateL
    exact List.Nodup.sublist (List.Sublist.map _ List.filter_sublist) hnd
  refine ⟨?_, ?_, ?_, ?_, ?_, ?_, ?_, ?_, ?_⟩
  · rw [List.length_take]; omega
  · intro i s hs
    rw [List.getElem?_take] at hs
    split at hs
    · exact hs
    · cases hs
  · rw [sp2, hfp.length_eq]
  · omega
  · intro i s hs
    exact hasS_mem (hfp.mem_iff.1 (hin i s hs))
  · intro i s hs
    exact hasS_apart hsn hs
  · intro i s hs
    exact (hfree s (hin i s hs)).2
  · intro i s t hs ht
    have := sp3 i (i + 1) s t (by omega) hs ht
    rw [hday s (hin _ _ hs), hday t (hin _ _ ht)] at this
    exact this
  · intro i s hs
    have hm := List.mem_of_getElem? hs
    unfold lateL at hm
    exact hasS_mem (List.mem_filter.1 hm).1
theorem poolE_all {cs : List ByteArray} {xs : List TstR} {c sp key d : Int} (h : poolE cs xs c sp key d = 0) : poolE cs xs cs.length sp key d = 0 := by
  obtain ⟨z1, z2, z3, q3, q4⟩ := poolE_zero h
  have hcl := str_len z1
  unfold pickE at z3
  have d1 := firstE_zero z3 (drawE key 0) (by simp)
  have d2 := firstE_zero z3 (outE sp 0 99999) (by simp)
  unfold poolE pickE
  rw [z1, z2, d1, d2, outE_zero.2 ⟨by omega, by omega⟩, outE_zero.2 ⟨q3, q4⟩]
  rfl
theorem lateE_of {cs : List ByteArray} {xs : List TstR} {c sp key d : Int} (h : poolE cs xs c sp key d = 0) : lateE cs xs sp d = 0 := by
  obtain ⟨z1, z2, z3, q3, q4⟩ := poolE_zero h
  unfold pickE at z3
  have d2 := firstE_zero z3 (outE sp 0 99999) (by simp)
  unfold lateE
  rw [z1, z2, d2, outE_zero.2 ⟨q3, q4⟩]
  rfl
theorem poolE_of {cs : List ByteArray} {xs : List TstR} {c sp key d : Int} (h1 : listE 160 (strE cs) cs = 0) (h2 : listE 256 (tstE xs) xs = 0) (h3 : pickE c sp key = 0) (h4 : outE d 0 99999 = 0) : poolE cs xs c sp key d = 0 := by
  unfold poolE
  rw [h1, h2, h3, h4]
  rfl
end Go.Proofs.YtenkbeeiblhnjaaGreat
