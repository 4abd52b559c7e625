/- StartForwards: the reference's order is the program's. Plain. -/
import Derived.Test.YtenhodepaoaiiaaGreatDoorFwD
import Derived.Test.YtenhodepaoaiiaaGreatDoorGLaid
import Derived.Test.YtenhodepaoaiiaaGreatDoorGStT
namespace Go.Proofs.YtenhodepaoaiiaaGreatDoor
open Go.RowKit Go.Lib
set_option linter.unusedSimpArgs false
set_option linter.unusedVariables false
/-- without a state -/
def Fi (xs : List RowR) (a : Nat) : Prop := (rowOf xs a).st.toList.isEmpty = true
theorem btr_cmp {x y : RowR} (hx : x.st.toList.isEmpty = true) (hy : y.st.toList.isEmpty = true) : btr x y = decide (cmpR x y < 0) := by
  unfold btr cmpR ordZ
  have e1 : x.st.toList = [] := by simpa using hx
  have e2 : y.st.toList = [] := by simpa using hy
  rw [e1, e2]
  have : firstE [cmpZ (gradeZ []) (gradeZ []), cmpL y.xs x.xs] = cmpL y.xs x.xs := by
    rw [cmpZ_self]
    unfold firstE
    by_cases h : cmpL y.xs x.xs = 0
    · simp [firstE, h]
    · simp [firstE, h]
  rw [this]
theorem walkAt_spec {xs : List RowR} {x : RowR} {ps : List Nat} : ∀ k, k ≤ ps.length → (∀ j d, walkAt xs x ps k ≤ j → j < k → ps[j]? = some d → btr x (rowOf xs d) = true) ∧ (∀ j d, j + 1 = walkAt xs x ps k → ps[j]? = some d → btr x (rowOf xs d) = false)
  | 0, _ => ⟨fun j d _ h => by omega, fun j d h => by simp [walkAt] at h⟩
  | k + 1, hk => by
    have hd : ps[k]? = some (ps[k]'(by omega)) := List.getElem?_eq_getElem _
    obtain ⟨i1, i2⟩ := walkAt_spec (xs := xs) (x := x) (ps := ps) k (by omega)
    rw [walkAt_step hd]
    cases hb : btr x (rowOf xs (ps[k]'(by omega)))
    · rw [if_neg (by decide)]
      refine ⟨fun j d h1 h2 => by omega, fun j d h1 h2 => ?_⟩
      obtain rfl : j = k := by omega
      rw [hd] at h2; cases h2; exact hb
    · rw [if_pos rfl]
      refine ⟨fun j d h1 h2 h3 => ?_, i2⟩
      by_cases hjk : j = k
      · subst hjk; rw [hd] at h3; cases h3; exact hb
      · exact i1 j d h1 (by omega) h3
theorem insB_drop {xs : List RowR} {ps : List Nat} {i v : Nat} (h : v ∈ ps.drop (walkAt xs (rowOf xs i) ps ps.length)) : btr (rowOf xs i) (rowOf xs v) = true := by
  obtain ⟨j, hj⟩ := List.mem_iff_getElem?.1 h
  rw [List.getElem?_drop] at hj
  have hl := (List.getElem?_eq_some_iff.1 hj).1
  exact (walkAt_spec (xs := xs) (x := rowOf xs i) ps.length (Nat.le_refl _)).1 _ _ (Nat.le_add_right _ _) hl hj
theorem insB_filter {xs : List RowR} {ps : List Nat} {i : Nat} {p : Nat → Bool} (hp : ∀ a, p i = true → p a = true → a ∈ ps → btr (rowOf xs i) (rowOf xs a) = false) : (insB xs ps i).filter p = ps.filter p ++ [i].filter p := by
  unfold insB
  rw [List.filter_append, List.filter_cons]
  conv => rhs; rw [← List.take_append_drop (walkAt xs (rowOf xs i) ps ps.length) ps, List.filter_append]
  cases hi : p i
  · simp [hi]
  · have hd : (ps.drop (walkAt xs (rowOf xs i) ps ps.length)).filter p = [] := by
      rw [List.filter_eq_nil_iff]
      intro v hv hpv
      have := insB_drop hv
      rw [hp v hi hpv (List.mem_of_mem_drop hv)] at this
      cases this
    rw [hd]
    simp [hi]
theorem insB_perm (xs : List RowR) (ps : List Nat) (i : Nat) : (insB xs ps i).Perm (i :: ps) := by
  unfold insB
  refine List.perm_middle.trans ?_
  rw [List.take_append_drop]
def Le (xs : List RowR) (a b : Nat) : Prop := cmpR (rowOf xs a) (rowOf xs b) ≤ 0
theorem insB_sorted {xs : List RowR} {ps : List Nat} {i : Nat} (hs : ps.Pairwise (Le xs)) (hf : ∀ a ∈ ps, Fi xs a) (hi : Fi xs i) : (insB xs ps i).Pairwise (Le xs) := by
  have hsp := walkAt_spec (xs := xs) (x := rowOf xs i) (ps := ps) ps.length (Nat.le_refl _)
  have hle := walkAt_le xs (rowOf xs i) ps ps.length
  have hdr := fun v (hv : v ∈ ps.drop (walkAt xs (rowOf xs i) ps ps.length)) => insB_drop (i := i) hv
  unfold insB
  generalize walkAt xs (rowOf xs i) ps ps.length = a at *
  have h0 := hs
  rw [← List.take_append_drop a ps, List.pairwise_append] at h0
  obtain ⟨h1, h2, h3⟩ := h0
  have hil : ∀ v ∈ ps.drop a, Le xs i v := fun v hv => by
    have := hdr v hv
    rw [btr_cmp hi (hf v (List.mem_of_mem_drop hv))] at this
    have := of_decide_eq_true this
    unfold Le; omega
  rw [List.pairwise_append]
  refine ⟨h1, List.pairwise_cons.2 ⟨hil, h2⟩, fun u hu v hv => ?_⟩
  rcases List.mem_cons.1 hv with rfl | hv
  · obtain ⟨b, rfl⟩ : ∃ b, a = b + 1 := ⟨a - 1, by
      rcases Nat.eq_zero_or_pos a with h | h
      · subst h; simp at hu
      · omega⟩
    have hd : ps[b]? = some (ps[b]'(by omega)) := List.getElem?_eq_getElem _
    have hbt := hsp.2 b _ rfl hd
    have hmem : ps[b]'(by omega) ∈ ps := List.getElem_mem _
    rw [btr_cmp hi (hf _ hmem)] at hbt
    have hbt := of_decide_eq_false hbt
    have hfl := cmpR_flip (rowOf xs v) (rowOf xs (ps[b]'(by omega)))
    have hlast : Le xs (ps[b]'(by omega)) v := by unfold Le; omega
    rw [List.take_add_one, hd, Option.toList_some, List.mem_append, List.mem_singleton] at hu
    rcases hu with hu | rfl
    · rw [List.take_add_one, hd, Option.toList_some, List.pairwise_append] at h1
      have := h1.2.2 u hu _ (List.mem_singleton.2 rfl)
      unfold Le at *
      exact cmpR_trans _ _ _ this hlast
    · exact hlast
  · exact h3 u hu v hv
theorem orderF_sorted (xs : List RowR) : ∀ k, (orderF xs k).Pairwise (Le xs)
  | 0 => List.Pairwise.nil
  | k + 1 => by
    unfold orderF
    split
    · rename_i h
      exact insB_sorted (orderF_sorted xs k) (fun a ha => (orderF_mem ha).2) h
    · exact orderF_sorted xs k
def fiB (xs : List RowR) (a : Nat) : Bool := (rowOf xs a).st.toList.isEmpty
theorem orderF_perm (xs : List RowR) : ∀ k, (orderF xs k).Perm ((List.range k).filter (fiB xs))
  | 0 => List.Perm.nil
  | k + 1 => by
    unfold orderF
    rw [List.range_succ, List.filter_append, List.filter_cons, List.filter_nil]
    split
    · rename_i h
      rw [if_pos (show fiB xs k = true from h)]
      refine (insB_perm _ _ _).trans ?_
      exact ((orderF_perm xs k).cons k).trans (List.perm_append_comm (l₁ := [k]))
    · rename_i h
      rw [if_neg (show ¬ fiB xs k = true from h), List.append_nil]
      exact orderF_perm xs k
theorem orderF_filter {xs : List RowR} {p : Nat → Bool} (hp : ∀ a b, p a = true → p b = true → Fi xs a → Fi xs b → btr (rowOf xs a) (rowOf xs b) = false) : ∀ k, (orderF xs k).filter p = ((List.range k).filter (fiB xs)).filter p
  | 0 => rfl
  | k + 1 => by
    unfold orderF
    rw [List.range_succ, List.filter_append, List.filter_append]
    split
    · rename_i h
      rw [insB_filter (fun a h1 h2 h3 => hp k a h1 h2 h (orderF_mem h3).2), orderF_filter hp k]
      congr 1
      rw [List.filter_cons (p := fiB xs), if_pos (show fiB xs k = true from h)]; rfl
    · rename_i h
      rw [List.filter_cons (p := fiB xs), if_neg (show ¬ fiB xs k = true from h), orderF_filter hp k]
      simp
theorem fine_range (xs : List RowR) : ((List.range xs.length).filter (fiB xs)).map (fun a => bare (rowOf xs a)) = fineB (xs.map bare) := by
  unfold fineB
  conv => rhs; rw [← rows_range xs, List.map_map]
  rw [List.filter_map]
  congr 1
set_option maxHeartbeats 4000000 in
theorem names_thru (xs : List RowR) (m : Nat) : namesF xs (orderF xs xs.length) m (orderF xs xs.length).length = thruB (xs.map bare) m := by
  generalize hF : fineB (xs.map bare) = F
  have hmemF : ∀ a, a < xs.length → Fi xs a → bare (rowOf xs a) ∈ F := fun a ha hfa => by
    rw [← hF, ← fine_range]
    exact List.mem_map_of_mem (List.mem_filter.2 ⟨List.mem_range.2 ha, hfa⟩)
  have hcnt : ∀ a, Fi xs a → (cntF xs (orderF xs xs.length) (rowOf xs a) (orderF xs xs.length).length : Int) + 1 = rankB F (bare (rowOf xs a)) := fun a hfa => by
    unfold cntF rankB
    rw [List.take_of_length_le (Nat.le_refl _), ← hF, ← fine_range, List.countP_map, (orderF_perm xs xs.length).countP_eq, Int.add_comm]
    congr 2
    apply List.countP_congr
    intro c hc
    have hfc := (List.mem_filter.1 hc).2
    rw [btr_cmp hfc hfa]
    exact Iff.rfl
  unfold namesF thruB goOn ranksB
  rw [List.take_of_length_le (Nat.le_refl _), hF, pls_map]
  have hQ : (srtP (F.map fun b => ⟨b.nm, rankB F b⟩)).filter (fun p => decide (p.rk ≤ (m : Int))) = ((orderF xs xs.length).map fun a => (⟨(rowOf xs a).nm, rankB F (bare (rowOf xs a))⟩ : PlR)).filter (fun p => decide (p.rk ≤ (m : Int))) := by
    refine sorted_same_le (srtP_pairwise _) ?_ (srt_one _) ?_ m (fun r hr => ?_)
    · rw [List.pairwise_map]
      refine (orderF_sorted xs xs.length).imp_of_mem (fun {a b} ha hb h => ?_)
      obtain ⟨h1, h2⟩ := orderF_mem ha
      have := hmemF a h1 h2
      show rankB F (bare (rowOf xs a)) ≤ rankB F (bare (rowOf xs b))
      by_cases h0 : cmpR (rowOf xs a) (rowOf xs b) = 0
      · rw [rankB_same (bs := F) (a := bare (rowOf xs a)) (b := bare (rowOf xs b)) h0]; exact Int.le_refl _
      · have hlt : cmpB (bare (rowOf xs a)) (bare (rowOf xs b)) < 0 := by unfold Le at h; show cmpR (rowOf xs a) (rowOf xs b) < 0; omega
        have := rankB_less (bs := F) this hlt
        omega
    · intro p hp
      rw [List.mem_map] at hp
      obtain ⟨a, _, rfl⟩ := hp
      show 1 ≤ rankB F _
      unfold rankB; omega
    · rw [srt_rank, List.filter_map]
      have hst := orderF_filter (xs := xs) (p := fun a => decide (a < xs.length) && (rankB F (bare (rowOf xs a)) == r)) (fun a b ha hb fa fb => by
        simp only [Bool.and_eq_true, decide_eq_true_eq, beq_iff_eq] at ha hb
        rw [btr_cmp fa fb]
        refine decide_eq_false (fun hlt => ?_)
        have hlt2 : cmpB (bare (rowOf xs a)) (bare (rowOf xs b)) < 0 := hlt
        have := rankB_less (bs := F) (hmemF a ha.1 fa) hlt2
        omega) xs.length
      have e1 : (orderF xs xs.length).filter ((fun p : PlR => p.rk == r) ∘ fun a => (⟨(rowOf xs a).nm, rankB F (bare (rowOf xs a))⟩ : PlR)) = (orderF xs xs.length).filter (fun a => decide (a < xs.length) && (rankB F (bare (rowOf xs a)) == r)) := by
        apply List.filter_congr
        intro a ha
        simp [decide_eq_true (orderF_mem ha).1]
      rw [e1, hst]
      have e2 : F.filter (fun b => rankB F b == r) = (((List.range xs.length).filter (fiB xs)).filter (fun a => decide (a < xs.length) && (rankB F (bare (rowOf xs a)) == r))).map fun a => bare (rowOf xs a) := by
        conv => lhs; arg 2; rw [← hF, ← fine_range]
        rw [List.filter_map]
        congr 1
        apply List.filter_congr
        intro a ha
        have hlt := List.mem_range.1 (List.mem_filter.1 ha).1
        simp [decide_eq_true hlt]
      rw [e2, List.map_map]
      apply List.map_congr_left
      intro a ha
      have := (List.mem_filter.1 ha).2
      simp only [Bool.and_eq_true, decide_eq_true_eq, beq_iff_eq] at this
      show (⟨(rowOf xs a).nm, r⟩ : PlR) = _
      rw [this.2]
  rw [hQ, List.filter_map, List.map_map]
  congr 1
  apply List.filter_congr
  intro a ha
  have h1 := hcnt a (orderF_mem ha).2
  show decide _ = decide _
  rw [decide_eq_decide]
  show _ ↔ rankB F (bare (rowOf xs a)) ≤ (m : Int)
  omega
end Go.Proofs.YtenhodepaoaiiaaGreatDoor
namespace Go.Proofs.YtenhodepaoaiiaaGreatDoor
open Go.RowKit Go.Lib
set_option linter.unusedSimpArgs false
set_option linter.unusedVariables false
set_option maxHeartbeats 4000000
set_option maxRecDepth 100000
theorem first6_c (x y : Int) (b cap : Nat) (w : World) (hx : w.cell? ⟨b, 0, none⟩ = some (.int .i64 x)) (hy : w.cell? ⟨b, 1, none⟩ = some (.int .i64 y)) :
    Calls Tryz.prog 11 #[.slice (some ⟨b, 0, none⟩) 2 cap] w fun e w' => e = .returned (.int .i64 (firstE [x, y])) ∧ w = w' := by
  have HE : Hid (firstE [x, y] = if x = 0 then y else x) := by
    unfold Hid
    by_cases h : x = 0
    · rw [if_pos h]; unfold firstE; by_cases h2 : y = 0 <;> simp [firstE, h, h2]
    · rw [if_neg h]; unfold firstE; simp [h]
  by_cases h : x = 0
  · rw [if_pos h] at HE
    have h1 : (x != 0) = false := by rw [h]; rfl
    by_cases h2 : y = 0
    · have h3 : (y != 0) = false := by rw [h2]; rfl
      go_enter Tryz.func11, Tryz.ntmps11
      go_wp2_with fail
      refine wp_loop_rounds 3 ?_
      rw [rounds_succ]
      go_wp2_with fail
      rw [rounds_succ]
      go_wp2_with fail
      rw [rounds_succ]
      go_wp2_with fail
      go_ret
      exact ⟨by rw [HE.out, h2]; rfl, rfl⟩
    · have h3 : (y != 0) = true := bne_iff_ne.2 h2
      go_enter Tryz.func11, Tryz.ntmps11
      go_wp2_with fail
      refine wp_loop_rounds 3 ?_
      rw [rounds_succ]
      go_wp2_with fail
      rw [rounds_succ]
      go_wp2_with fail
      go_ret
      exact ⟨by rw [HE.out]; rfl, rfl⟩
  · rw [if_neg h] at HE
    have h1 : (x != 0) = true := bne_iff_ne.2 h
    go_enter Tryz.func11, Tryz.ntmps11
    go_wp2_with fail
    refine wp_loop_rounds 3 ?_
    rw [rounds_succ]
    go_wp2_with fail
    go_ret
    exact ⟨by rw [HE.out]; rfl, rfl⟩
/-- words: an error is the wanted one -/
theorem words_bad {E : Int} (hE : E ≠ 0) (v : Value) (w : World) :
    Calls Tryz.prog 13 #[.slice none 0 0, .int .i64 E, .int .i64 E, v] w fun e w' => e = .returned (.bool true) ∧ w = w' := by
  have h1 : (E != 0) = true := bne_iff_ne.2 hE
  have h2 : (E == E) = true := beq_self_eq_true E
  go_enter Tryz.func13, Tryz.ntmps13
  go_wp2_with fail
  go_ret
  exact ⟨rfl, rfl⟩
theorem words_good {ns : List ByteArray} {v v2 : Value} {w : World} (h : StrsV w v ns) (h2 : StrsV w v2 ns) (hs : ns.length ≤ 1000) :
    Calls Tryz.prog 13 #[v, .int .i64 0, .int .i64 0, v2] w fun e w' => e = .returned (.bool true) ∧ Gr w w' := by
  have HS := Lib.hid (sameWords_c h h2 hs)
  go_enter Tryz.func13, Tryz.ntmps13
  go_wp2_with (refine HS.out.mono ?_; rintro e w1 ⟨rfl, g1⟩)
  go_ret
  exact ⟨rfl, g1⟩
end Go.Proofs.YtenhodepaoaiiaaGreatDoor
