/- MemberSpares: what the law asks of a pool and of those who are late. -/
import Derived.Test.YtenkbeeiblhnjaaGreatPoC
import Derived.Test.YtenkbeeiblhnjaaGreatGNmsB
import Derived.Test.YtenkbeeiblhnjaaGreatTsA
import Derived.Test.YtenkbeeiblhnjaaGreatGMbA
namespace Go.Proofs.YtenkbeeiblhnjaaGreat
open Go.RowKit Go.Lib
set_option linter.unusedSimpArgs false
set_option linter.unusedVariables false
theorem firstE_bnd : ∀ (l : List Int), (∀ z ∈ l, 0 ≤ z ∧ z ≤ 9) → 0 ≤ firstE l ∧ firstE l ≤ 9
  | [], _ => by simp [firstE]
  | x :: l, h => by
    have h1 := h x (List.mem_cons_self ..)
    have h2 := firstE_bnd l (fun z hz => h z (List.mem_cons_of_mem _ hz))
    simp only [firstE]
    split <;> assumption
theorem errG_bnd {α : Type} (E : Nat → α → Int) (xs : List α) (h : ∀ i x, 0 ≤ E i x ∧ E i x ≤ 9) : ∀ (k i : Nat), 0 ≤ errG E xs k i ∧ errG E xs k i ≤ 9
  | 0, _ => by simp [errG]
  | k + 1, i => by
    have h2 := errG_bnd E xs h k (i + 1)
    unfold errG
    split
    · rename_i x _
      split
      · exact h2
      · exact h i x
    · simp
theorem listE_bnd {α : Type} (m : Nat) (E : Nat → α → Int) (xs : List α) (h : ∀ i x, 0 ≤ E i x ∧ E i x ≤ 9) : 0 ≤ listE m E xs ∧ listE m E xs ≤ 9 := by
  unfold listE
  split
  · omega
  · exact errG_bnd E xs h _ _
theorem nmE_bnd (s : ByteArray) : 0 ≤ nmE s ∧ nmE s ≤ 9 := by
  unfold nmE; split <;> omega
theorem outE_bnd (a b c : Int) : 0 ≤ outE a b c ∧ outE a b c ≤ 9 := by
  unfold outE; split <;> omega
theorem strE_bnd (cs : List ByteArray) (i : Nat) (x : ByteArray) : 0 ≤ strE cs i x ∧ strE cs i x ≤ 9 := by
  unfold strE
  refine firstE_bnd _ (fun z hz => ?_)
  simp only [List.mem_cons, List.not_mem_nil, or_false] at hz
  rcases hz with rfl | rfl
  · exact nmE_bnd x
  · split <;> omega
theorem tstE_bnd (xs : List TstR) (i : Nat) (x : TstR) : 0 ≤ tstE xs i x ∧ tstE xs i x ≤ 9 := by
  unfold tstE
  refine firstE_bnd _ (fun z hz => ?_)
  simp only [List.mem_cons, List.not_mem_nil, or_false] at hz
  rcases hz with rfl | rfl
  · exact nmE_bnd _
  · exact outE_bnd _ _ _
theorem names_nodup {cs : List ByteArray} (h : listE 160 (strE cs) cs = 0) : (cs.map ByteArray.toList).Nodup := by
  unfold listE at h
  split at h
  · cases h
  · rw [List.Nodup, List.pairwise_iff_getElem]
    intro i j hi hj hij e
    rw [List.length_map] at hi hj
    have h0 := errG_zero cs.length 0 h (by omega) j cs[j] (by omega) (by omega) (List.getElem?_eq_getElem hj)
    unfold strE at h0
    have h1 := firstE_zero h0 (if hasS (cs.take j) cs[j] then 9 else 0) (by simp)
    have h2 : hasS (cs.take j) cs[j] = true := by
      unfold hasS
      rw [List.any_eq_true]
      refine ⟨cs[i], List.mem_iff_getElem.2 ⟨i, by rw [List.length_take]; omega, by simp⟩, ?_⟩
      simp only [List.getElem_map] at e
      simp [e]
    rw [h2] at h1
    simp at h1
theorem hasS_apart {l : List ByteArray} (h : (l.map ByteArray.toList).Nodup) {i : Nat} {s : ByteArray} (hi : l[i]? = some s) : hasS (l.take i) s = false := by
  cases hq : hasS (l.take i) s with
  | false => rfl
  | true =>
    unfold hasS at hq
    rw [List.any_eq_true] at hq
    obtain ⟨t, ht, e⟩ := hq
    obtain ⟨j, hj, rfl⟩ := List.mem_iff_getElem.1 ht
    rw [List.length_take] at hj
    obtain ⟨hil, rfl⟩ := List.getElem?_eq_some_iff.1 hi
    rw [List.Nodup, List.pairwise_iff_getElem] at h
    have := h j i (by rw [List.length_map]; omega) (by rw [List.length_map]; omega) (by omega)
    simp only [List.getElem_map] at this
    simp only [List.getElem_take, beq_iff_eq] at e
    exact absurd e.symm this
theorem hasS_mem {l : List ByteArray} {s : ByteArray} (h : s ∈ l) : hasS l s = true := by
  unfold hasS
  rw [List.any_eq_true]
  exact ⟨s, h, by simp⟩
def lastC (xs : List TstR) (d : Int) (s : ByteArray) : Int := lastZ (lastD d s) xs (-1)
/-- what the law asks: A the pool, B the pool of all, Lt those who are late -/
structure SpF (cs : List ByteArray) (xs : List TstR) (c sp d : Int) (A B Lt : List ByteArray) : Prop where
  la : (A.length : Int) = min c (B.length : Int)
  ab : ∀ (i : Nat) (s : ByteArray), A[i]? = some s → B[i]? = some s
  lb : B.length = Lt.length
  lc : B.length ≤ cs.length
  inl : ∀ (i : Nat) (s : ByteArray), B[i]? = some s → hasS Lt s = true
  apart : ∀ (i : Nat) (s : ByteArray), B[i]? = some s → hasS (B.take i) s = false
  free : ∀ (i : Nat) (s : ByteArray), B[i]? = some s → (lastC xs d s < 0 ∨ lastC xs d s < d - sp)
  ord : ∀ (i : Nat) (s t : ByteArray), B[i]? = some s → B[i + 1]? = some t → lastC xs d s ≤ lastC xs d t
  inc : ∀ (i : Nat) (s : ByteArray), Lt[i]? = some s → hasS cs s = true
theorem spares_facts {cs : List ByteArray} {xs : List TstR} {c sp d : Int} {key : Nat} (h : poolE cs xs c sp (key : Int) d = 0) : SpF cs xs c sp d (poolL cs xs c sp key d) (poolL cs xs cs.length sp key d) (lateL xs sp d cs) := by
  obtain ⟨z1, z2, z3, q3, q4⟩ := poolE_zero h
  obtain ⟨⟨c1, c2⟩, ⟨p1, p2⟩, k1, k2⟩ := pickE_zero z3
  have htr := (tst_range z2).2
  have hnd := names_nodup z1
  have hperm := drawnS_perm key cs
  have hlen := drawnS_len key cs
  have hfp : (poolU xs sp d (drawnS key cs)).Perm (lateL xs sp d cs) := by
    have e : lateL xs sp d cs = cs.filter (freeS xs sp d) := by
      unfold lateL
      congr 1
      funext s
      exact late_iff (fun x hx => (htr x hx).1) s sp d
    rw [e]
    exact hperm.filter _
  have hfree : ∀ s ∈ poolU xs sp d (drawnS key cs), s ∈ cs ∧ (lastC xs d s < 0 ∨ lastC xs d s < d - sp) := fun s hs => by
    unfold poolU at hs
    rw [List.mem_filter] at hs
    refine ⟨hperm.mem_iff.1 hs.1, ?_⟩
    have := hs.2
    unfold freeS at this
    simpa [lastC] using this
  have hle : (poolU xs sp d (drawnS key cs)).length ≤ cs.length := by
    have := poolU_len xs sp d (drawnS key cs)
    omega
  obtain ⟨sp1, sp2, sp3⟩ := srtM_spec (lastM cs xs d) (poolU xs sp d (drawnS key cs))
  unfold poolL
  generalize poolU xs sp d (drawnS key cs) = F at *
  generalize srtM (lastM cs xs d) F = S at *
  rw [show S.take (min (cs.length : Int) (F.length : Int)).toNat = S from List.take_of_length_le (by omega)]
  have hin : ∀ (i : Nat) (s : ByteArray), S[i]? = some s → s ∈ F := fun i s hs => sp1.mem_iff.1 (List.mem_of_getElem? hs)
  have hday : ∀ s ∈ F, dayM (lastM cs xs d) s = lastC xs d s := fun s hs => by
    unfold dayM
    rw [look_last (hfree s hs).1]
    rfl
  have hsn : (S.map ByteArray.toList).Nodup := by
    have h1 : (S.map ByteArray.toList).Perm ((lateL xs sp d cs).map ByteArray.toList) := (sp1.trans hfp).map _
    rw [h1.nodup_iff]
    unfold lateL
    exact List.Nodup.sublist (List.Sublist.map _ List.filter_sublist) hnd
  refine ⟨?_, ?_, ?_, ?_, ?_, ?_, ?_, ?_, ?_⟩
  · rw [List.length_take]; omega
  · intro i s hs
    rw [List.getElem?_take] at hs
    split at hs
    · exact hs
    · cases hs
  · rw [sp2, hfp.length_eq]
  · omega
  · intro i s hs
    exact hasS_mem (hfp.mem_iff.1 (hin i s hs))
  · intro i s hs
    exact hasS_apart hsn hs
  · intro i s hs
    exact (hfree s (hin i s hs)).2
  · intro i s t hs ht
    have := sp3 i (i + 1) s t (by omega) hs ht
    rw [hday s (hin _ _ hs), hday t (hin _ _ ht)] at this
    exact this
  · intro i s hs
    have hm := List.mem_of_getElem? hs
    unfold lateL at hm
    exact hasS_mem (List.mem_filter.1 hm).1
theorem poolE_all {cs : List ByteArray} {xs : List TstR} {c sp key d : Int} (h : poolE cs xs c sp key d = 0) : poolE cs xs cs.length sp key d = 0 := by
  obtain ⟨z1, z2, z3, q3, q4⟩ := poolE_zero h
  have hcl := str_len z1
  unfold pickE at z3
  have d1 := firstE_zero z3 (drawE key 0) (by simp)
  have d2 := firstE_zero z3 (outE sp 0 99999) (by simp)
  unfold poolE pickE
  rw [z1, z2, d1, d2, outE_zero.2 ⟨by omega, by omega⟩, outE_zero.2 ⟨q3, q4⟩]
  rfl
theorem lateE_of {cs : List ByteArray} {xs : List TstR} {c sp key d : Int} (h : poolE cs xs c sp key d = 0) : lateE cs xs sp d = 0 := by
  obtain ⟨z1, z2, z3, q3, q4⟩ := poolE_zero h
  unfold pickE at z3
  have d2 := firstE_zero z3 (outE sp 0 99999) (by simp)
  unfold lateE
  rw [z1, z2, d2, outE_zero.2 ⟨q3, q4⟩]
  rfl
theorem poolE_of {cs : List ByteArray} {xs : List TstR} {c sp key d : Int} (h1 : listE 160 (strE cs) cs = 0) (h2 : listE 256 (tstE xs) xs = 0) (h3 : pickE c sp key = 0) (h4 : outE d 0 99999 = 0) : poolE cs xs c sp key d = 0 := by
  unfold poolE
  rw [h1, h2, h3, h4]
  rfl
end Go.Proofs.YtenkbeeiblhnjaaGreat
namespace Go.Proofs.YtenkbeeiblhnjaaGreat
open Go.RowKit Go.Lib
set_option linter.unusedSimpArgs false
set_option linter.unusedVariables false
theorem tstE_eq (xs : List TstR) (i : Nat) (x : TstR) : tstE xs i x = if (!decide (Nm x.nm)) = true then 8 else if (outB x.dy 0 99999) = true then 3 else 0 := by
  unfold tstE nmE outE
  by_cases q0 : Nm x.nm <;> cases outB x.dy 0 99999 <;> simp [firstE, q0]
set_option maxHeartbeats 1000000 in
set_option maxRecDepth 100000 in
theorem refTsts_pos (xs : List TstR) (n b off cap : Nat) (w : World) (hn : xs.length = n) (h1 : n ≤ 256) (hc : ∀ i x, xs[i]? = some x → TstAt w b (off + i * 2) x) :
    Calls Tryz.prog 10 #[.slice (some ⟨b, off, none⟩) n cap] w fun e w' => e = .returned (.int .i64 (errG (tstE xs) xs n 0)) ∧ Gr w w' := by
  have HC := Lib.hid hc
  have HN := Lib.hid hn
  clear hc hn
  have hz2 : decide ((256 : Int) < n) = false := by simp; omega
  go_enter Tryz.func10, Tryz.ntmps10
  go_wp2_with fail
  go_loopg [3] n (fun gk s3 wr => ∃ i : Nat, s3 = .int .i64 i ∧ gk + i = n ∧ Gr w wr ∧ Hid (errG (tstE xs) xs (n - i) i = errG (tstE xs) xs n 0))
  case atStart => exact ⟨0, rfl, by omega, Gr.refl _, by simp [Hid]⟩
  case round =>
    obtain ⟨i, rfl, hi, hg, HF⟩ := hrel
    obtain ⟨gO, rfl⟩ : ∃ q, q = gk := ⟨gk, rfl⟩
    by_cases hlt : i < n
    · obtain ⟨x, hx⟩ : ∃ x, xs[i]? = some x := ⟨xs[i]'(by have := HN.out; omega), List.getElem?_eq_getElem _⟩
      have hcell := HC.out i x hx
      obtain ⟨c0, c1⟩ := hcell.gr hg
      have hf := errG_step (E := tstE xs) hlt hx
      rw [tstE_eq] at hf
      have hi2 : (i : Int) < n := by omega
      have hN0 := fun W => refIsName_c x.nm W
      have hO0 := fun W => refOutside_c x.dy 0 99999 W
      clear hx hcell
      generalize decide (Nm x.nm) = n0 at hf hN0
      generalize outB x.dy 0 99999 = o0 at hf hO0
      replace hN0 := Lib.hid hN0
      replace hO0 := Lib.hid hO0
      have HF0 := Lib.hid hf
      clear hf
      cases n0
      · have HF1 := HF0.out
        simp only [Bool.not_true, Bool.not_false, Bool.false_or, Bool.true_or, Bool.or_true, if_true, show ¬ (8 : Int) = 0 by decide, if_false] at HF1
        have HF2 := Lib.hid HF1
        clear HF1 HF0
        go_wp2_with fail
        repeat (first | ((with_reducible refine (hN0.out _).mono ?_); rintro e w4 ⟨rfl, rfl⟩; go_wp2_with fail))
        go_ret
        exact ⟨by rw [← HF.out, HF2.out]; rfl, by first | exact hg | exact hg.drewN _⟩
      have HF1 := HF0.out
      simp only [Bool.not_true, Bool.or_self, Bool.false_eq_true, if_false] at HF1
      have HF2 := Lib.hid HF1
      clear HF1 HF0
      cases o0
      all_goals
        have HF3 := HF2.out
        simp only [Bool.or_self, Bool.or_true, Bool.true_or, Bool.or_false, Bool.false_or, Bool.false_eq_true, if_true, if_false, show ¬ (3 : Int) = 0 by decide, show ¬ (11 : Int) = 0 by decide, ite_self] at HF3
        clear HF2
        have HF2 := Lib.hid HF3
        clear HF3
        go_wp2_with fail
        repeat (first | ((with_reducible refine (hN0.out _).mono ?_); rintro e w4 ⟨rfl, rfl⟩; go_wp2_with fail) | ((with_reducible refine (hO0.out _).mono ?_); rintro e w4 ⟨rfl, rfl⟩; go_wp2_with fail))
        first
          | (go_ret
             exact ⟨by rw [← HF.out, HF2.out]; rfl, by first | exact hg | exact hg.drewN _⟩)
          | (go_roundg (gO - 1)
             case measure => omega
             case rel => exact ⟨i + 1, by go_num, by omega, by first | exact hg | exact hg.drewN _, by unfold Hid; rw [← HF2.out, HF.out]⟩)
    · have hin : i = n := by omega
      have HE2 : Hid (errG (tstE xs) xs (n - i) i = 0) := by unfold Hid; rw [hin, Nat.sub_self]; rfl
      have hi2 : (n : Int) ≤ i := by omega
      clear hin
      go_wp2_with fail
      go_ret
      exact ⟨by rw [← HF.out, HE2.out]; rfl, hg⟩
theorem refTsts_c {v : Value} {xs : List TstR} {w : World} (h : TstAts w v xs) :
    Calls Tryz.prog 10 #[v] w fun e w' => e = .returned (.int .i64 (listE 256 (tstE xs) xs)) ∧ Gr w w' := by
  obtain ⟨⟨p, cap, rfl, _, hh⟩⟩ := h
  rcases Nat.lt_or_ge 256 xs.length with hl | hl
  · have HE : Hid (listE 256 (tstE xs) xs = 5) := by unfold Hid listE; rw [if_pos hl]
    have hz2 : decide ((256 : Int) < xs.length) = true := decide_eq_true (by omega)
    clear hh
    go_enter Tryz.func10, Tryz.ntmps10
    go_wp2_with fail
    go_ret
    exact ⟨by rw [HE.out]; rfl, Gr.refl _⟩
  · have HE : listE 256 (tstE xs) xs = errG (tstE xs) xs xs.length 0 := by unfold listE; rw [if_neg (by omega)]
    rw [HE]
    rcases Nat.eq_zero_or_pos xs.length with h0 | h0
    · have hx : xs = [] := List.eq_nil_of_length_eq_zero h0
      subst hx
      go_enter Tryz.func10, Tryz.ntmps10
      go_wp2_with fail
      refine wp_loop_rounds 2 ?_
      rw [rounds_succ]
      go_wp2_with fail
      go_ret
      exact ⟨rfl, Gr.refl _⟩
    · obtain ⟨b, off, rfl, hc⟩ := hh h0
      exact refTsts_pos xs _ b off cap w rfl hl hc
end Go.Proofs.YtenkbeeiblhnjaaGreat
namespace Go.Proofs.YtenkbeeiblhnjaaGreat
open Go.RowKit Go.Lib
set_option linter.unusedSimpArgs false
set_option linter.unusedVariables false
def tstC (x : TstR) : List Value := [.string x.nm, .int .i64 x.dy]
def tstCs (xs : List TstR) : List Value := xs.flatMap tstC
theorem tstCs_len (xs : List TstR) : (tstCs xs).length = xs.length * 2 := by
  induction xs with
  | nil => rfl
  | cons x xs ih => simp only [tstCs, List.flatMap_cons, List.length_append, List.length_cons] at *; rw [ih]; simp [tstC]; omega
theorem tstCs_add (xs : List TstR) (x : TstR) : tstCs (xs ++ [x]) = tstCs xs ++ tstC x := by simp [tstCs]
theorem tstCs_take {xs : List TstR} {k : Nat} {x : TstR} (h : xs[k]? = some x) : tstCs (xs.take (k + 1)) = tstCs (xs.take k) ++ tstC x := by
  rw [List.take_add_one, h]
  simp [tstCs]
theorem tstCs_at {xs : List TstR} {i : Nat} {x : TstR} (h : xs[i]? = some x) (j : Nat) (hj : j < 2) : (tstCs xs)[i * 2 + j]? = (tstC x)[j]? := by
  induction xs generalizing i with
  | nil => simp at h
  | cons y ys ih =>
    have e : tstCs (y :: ys) = tstC y ++ tstCs ys := rfl
    rw [e]
    cases i with
    | zero =>
      simp only [List.getElem?_cons_zero, Option.some.injEq] at h
      subst h
      rw [show 0 * 2 + j = j by omega, List.getElem?_append_left (by simp [tstC]; omega)]
    | succ i =>
      rw [List.getElem?_append_right (by simp [tstC]; omega)]
      have := ih (i := i) (by simpa using h)
      rw [← this]
      congr 1
      simp [tstC]; omega
theorem TstAts_of_owns {w : World} {base : Nat} {v : Value} {xs : List TstR} {T : TypeId} {n : Nat} (hn : xs.length = n) (h : w.ownsRow base T 2 v n (tstCs xs)) : TstAts w v xs := by
  subst hn
  rcases h.2 with ⟨rfl, h0⟩ | ⟨g, cap, cur, rfl, _, _, hle, hmx, _, _⟩
  · exact ⟨none, 0, by rw [h0], ⟨by omega, by unfold maxLen; omega⟩, fun h => by omega⟩
  · refine ⟨some ⟨g, 0, none⟩, cap, rfl, ⟨hle, hmx⟩, fun _ => ⟨g, 0, rfl, fun i x hx => ?_⟩⟩
    have e : ∀ j, (⟨g, 0, none⟩ : Addr).add j = ⟨g, j, none⟩ := fun j => by unfold Addr.add; split <;> simp_all
    have c0 := h.cells (g := g) rfl (i * 2 + 0) (.string x.nm) (by rw [tstCs_at hx 0 (by omega)]; rfl)
    have c1 := h.cells (g := g) rfl (i * 2 + 1) (.int .i64 x.dy) (by rw [tstCs_at hx 1 (by omega)]; rfl)
    rw [e] at c0 c1
    exact ⟨by simpa using c0, by simpa using c1⟩
theorem cell_tstC (w : World) (x : TstR) (T : TypeId) : ∀ (j : Nat) (u : Value), (tstC x)[j]? = some u → (w.alloc (.cells #[.string x.nm, .int .i64 x.dy] T)).cell? ((⟨w.heap.size, 0, none⟩ : Addr).add j) = some u := by
  intro j u h
  unfold tstC at h
  have e : (⟨w.heap.size, 0, none⟩ : Addr).add j = ⟨w.heap.size, j, none⟩ := by unfold Addr.add; split <;> simp_all
  rw [e]
  rcases j with _ | _ | j
  · simp at h; subst h; exact cell_new w #[.string x.nm, .int .i64 x.dy] T 0 (by simp)
  · simp at h; subst h; exact cell_new w #[.string x.nm, .int .i64 x.dy] T 1 (by simp)
  · simp at h
theorem infoTst : (Tryz.prog.info? 72).map (fun i => (i.zero, i.size, i.bytes)) = some (some (.agg #[.string ⟨#[]⟩, .int .i64 0]), 2, 24) := by kernel_rfl
set_option maxHeartbeats 1000000 in
set_option maxRecDepth 100000 in
theorem tsts_pos (xs : List TstR) (n b off cap : Nat) (w : World) (hn : xs.length = n) (hb : n * 24 ≤ 140737488355328) (hc : ∀ i x, xs[i]? = some x → TstAt w b (off + i * 2) x) :
    Calls Tryz.prog 6 #[.slice (some ⟨b, off, none⟩) n cap] w fun e w' => ∃ v, e = .returned v ∧ w'.ownsRow w.heap.size 72 2 v n (tstCs xs) ∧ Gr w w' := by
  obtain ⟨i0, hi, hz0, hz1, hz2⟩ := info_parts infoTst
  have HC := Lib.hid hc
  have HN := Lib.hid hn
  have HB := Lib.hid hb
  have hnm : n ≤ 9223372036854775807 := by omega
  clear hc hn hb
  go_enter Tryz.func6, Tryz.ntmps6
  go_wp2_with fail
  go_loopw [3, 4] (fun v i wr => ∃ k : Nat, k ≤ n ∧ i = .int .i64 k ∧ wr.ownsRow w.heap.size 72 2 v k (tstCs (xs.take k)) ∧ Below w.heap.size w wr) (fun _ i _ => n - (intOf i).toNat)
  case atStart => exact ⟨0, Nat.zero_le _, rfl, World.ownsRow_nil _ _ _ _, Below.refl _ _⟩
  case round =>
    obtain ⟨k, hk, rfl, hown, hnx⟩ := hrel
    have hsize := hnx.size
    by_cases hkN : k < n
    · obtain ⟨x, hx⟩ : ∃ x, xs[k]? = some x := ⟨xs[k]'(by have := HN.out; omega), List.getElem?_eq_getElem _⟩
      obtain ⟨c0, c1⟩ := (HC.out k x hx).gr hnx
      have HQ := Lib.hid (tstCs_take hx)
      have HLn := Lib.hid (tstCs_len (xs.take k))
      have HT := Lib.hid (show (xs.take k).length = k by rw [List.length_take]; have := HN.out; omega)
      have hi2 : (k : Int) < n := by omega
      clear hx
      go_wp2_with (first
        | (at_builtin; refine wpList_append_own _ rfl _ _ 28 rfl w.heap.size 72 i0 (.agg #[.string ⟨#[]⟩, .int .i64 0]) 2 24 Tryz.underlying28 hi hz0 hz1 hz2 rfl (by decide) _ _ _ rfl (hown.alloc _) ⟨wr.heap.size, 0, none⟩ 1 1 (tstC x) rfl rfl (cell_tstC _ _ _) (by intro u hu; simp [tstC] at hu; rcases hu with rfl | rfl <;> rfl) (by have := HB.out; unfold maxLen; omega) (by have := HB.out; omega) (by simp; omega) ?_; intro v1 w1 hown1 hgrow1 hnil1))
      go_roundw
      case rel =>
        exact ⟨k + 1, by omega, by go_num, by rw [HQ.out]; exact hown1, (hnx.alloc hsize _).grown hgrow1 (by simp; omega) (fun j hj => (hown.lt j hj).1)⟩
      case measure => simp [intOf]; omega
    · have hkk : k = n := by omega
      subst hkk
      rw [List.take_of_length_le (by have := HN.out; omega)] at hown
      go_wp2_with fail
      go_ret
      exact ⟨_, rfl, hown, hnx⟩
theorem tsts_c {v : Value} {xs : List TstR} {w : World} (h : TstAts w v xs) (hb : xs.length * 24 ≤ 140737488355328) :
    Calls Tryz.prog 6 #[v] w fun e w' => ∃ v, e = .returned v ∧ TstAts w' v xs ∧ Gr w w' := by
  obtain ⟨⟨p, cap, rfl, _, hh⟩⟩ := h
  rcases Nat.eq_zero_or_pos xs.length with h0 | h0
  · have hx : xs = [] := List.eq_nil_of_length_eq_zero h0
    subst hx
    go_enter Tryz.func6, Tryz.ntmps6
    go_wp2_with fail
    refine wp_loop_rounds 2 ?_
    rw [rounds_succ]
    go_wp2_with fail
    go_ret
    exact ⟨_, rfl, ⟨none, 0, rfl, ⟨by simp, by unfold maxLen; omega⟩, fun h => absurd h (by simp)⟩, Gr.refl _⟩
  · obtain ⟨b, off, rfl, hc⟩ := hh h0
    refine (tsts_pos xs _ b off cap w rfl hb hc).mono ?_
    rintro e w' ⟨v, rfl, ho, hg⟩
    exact ⟨v, rfl, TstAts_of_owns rfl ho, hg⟩
end Go.Proofs.YtenkbeeiblhnjaaGreat
namespace Go.Proofs.YtenkbeeiblhnjaaGreat
open Go.RowKit Go.Lib
set_option linter.unusedSimpArgs false
set_option linter.unusedVariables false
/-- what a test of sizes returns -/
structure ShortRet (e : Ending) (n m : Nat) : Prop where
  mk' ::
  out : ∃ r, e = .returned (.bool r) ∧ (r = true → n ≤ m)
def catC (x : CatR) : List Value := [.string x.nm, .int .i64 x.lo, .int .i64 x.hi]
def catCs (xs : List CatR) : List Value := xs.flatMap catC
theorem catCs_len (xs : List CatR) : (catCs xs).length = xs.length * 3 := by
  induction xs with
  | nil => rfl
  | cons x xs ih => simp only [catCs, List.flatMap_cons, List.length_append, List.length_cons] at *; rw [ih]; simp [catC]; omega
theorem catCs_add (xs : List CatR) (x : CatR) : catCs (xs ++ [x]) = catCs xs ++ catC x := by simp [catCs]
theorem catCs_take {xs : List CatR} {k : Nat} {x : CatR} (h : xs[k]? = some x) : catCs (xs.take (k + 1)) = catCs (xs.take k) ++ catC x := by
  rw [List.take_add_one, h]
  simp [catCs]
theorem catCs_at {xs : List CatR} {i : Nat} {x : CatR} (h : xs[i]? = some x) (j : Nat) (hj : j < 3) : (catCs xs)[i * 3 + j]? = (catC x)[j]? := by
  induction xs generalizing i with
  | nil => simp at h
  | cons y ys ih =>
    have e : catCs (y :: ys) = catC y ++ catCs ys := rfl
    rw [e]
    cases i with
    | zero =>
      simp only [List.getElem?_cons_zero, Option.some.injEq] at h
      subst h
      rw [show 0 * 3 + j = j by omega, List.getElem?_append_left (by simp [catC]; omega)]
    | succ i =>
      rw [List.getElem?_append_right (by simp [catC]; omega)]
      have := ih (i := i) (by simpa using h)
      rw [← this]
      congr 1
      simp [catC]; omega
theorem CatAts_of_owns {w : World} {base : Nat} {v : Value} {xs : List CatR} {T : TypeId} {n : Nat} (hn : xs.length = n) (h : w.ownsRow base T 3 v n (catCs xs)) : CatAts w v xs := by
  subst hn
  rcases h.2 with ⟨rfl, h0⟩ | ⟨g, cap, cur, rfl, _, _, hle, hmx, _, _⟩
  · exact ⟨none, 0, by rw [h0], ⟨by omega, by unfold maxLen; omega⟩, fun h => by omega⟩
  · refine ⟨some ⟨g, 0, none⟩, cap, rfl, ⟨hle, hmx⟩, fun _ => ⟨g, 0, rfl, fun i x hx => ?_⟩⟩
    have e : ∀ j, (⟨g, 0, none⟩ : Addr).add j = ⟨g, j, none⟩ := fun j => by unfold Addr.add; split <;> simp_all
    have c0 := h.cells (g := g) rfl (i * 3 + 0) (.string x.nm) (by rw [catCs_at hx 0 (by omega)]; rfl)
    have c1 := h.cells (g := g) rfl (i * 3 + 1) (.int .i64 x.lo) (by rw [catCs_at hx 1 (by omega)]; rfl)
    have c2 := h.cells (g := g) rfl (i * 3 + 2) (.int .i64 x.hi) (by rw [catCs_at hx 2 (by omega)]; rfl)
    rw [e] at c0 c1 c2
    exact ⟨by simpa using c0, by simpa using c1, by simpa using c2⟩
theorem cell_catC (w : World) (x : CatR) (T : TypeId) : ∀ (j : Nat) (u : Value), (catC x)[j]? = some u → (w.alloc (.cells #[.string x.nm, .int .i64 x.lo, .int .i64 x.hi] T)).cell? ((⟨w.heap.size, 0, none⟩ : Addr).add j) = some u := by
  intro j u h
  unfold catC at h
  have e : (⟨w.heap.size, 0, none⟩ : Addr).add j = ⟨w.heap.size, j, none⟩ := by unfold Addr.add; split <;> simp_all
  rw [e]
  rcases j with _ | _ | _ | j
  · simp at h; subst h; exact cell_new w #[.string x.nm, .int .i64 x.lo, .int .i64 x.hi] T 0 (by simp)
  · simp at h; subst h; exact cell_new w #[.string x.nm, .int .i64 x.lo, .int .i64 x.hi] T 1 (by simp)
  · simp at h; subst h; exact cell_new w #[.string x.nm, .int .i64 x.lo, .int .i64 x.hi] T 2 (by simp)
  · simp at h
end Go.Proofs.YtenkbeeiblhnjaaGreat
