/- TopFlakeCompletions: all completions are gone through; the ranks that they lead to are those that are possible. Plain. -/
import Derived.Test.YtimbcjldejifaaaGreatDoorGOpP
import Derived.Test.YtimbcjldejifaaaGreatDoorGNamesB
namespace Go.Proofs.YtimbcjldejifaaaGreatDoor
open Go.RowKit Go.Lib
set_option linter.unusedSimpArgs false
set_option linter.unusedVariables false
/-- how many values are open -/
def sizeO (x : OpR) : Nat := (x.hi - x.lo + 1).toNat
/-- the values that a number stands for -/
def digs : List OpR → Nat → List Int
  | [], _ => []
  | x :: xs, n => (x.lo + ((n % sizeO x : Nat) : Int)) :: digs xs (n / sizeO x)
def totalO : List OpR → Nat
  | [] => 1
  | x :: xs => sizeO x * totalO xs
theorem digs_len : ∀ (xs : List OpR) (n : Nat), (digs xs n).length = xs.length
  | [], _ => rfl
  | x :: xs, n => by simp [digs, digs_len xs]
theorem digs_in : ∀ (xs : List OpR) (n j : Nat) (x : OpR) (y : Int), (∀ x ∈ xs, x.lo ≤ x.hi) → xs[j]? = some x → (digs xs n)[j]? = some y → x.lo ≤ y ∧ y ≤ x.hi
  | [], _, j, x, y, _, h, _ => by simp at h
  | z :: xs, n, 0, x, y, hle, h, h2 => by
    simp [digs] at h h2
    subst h h2
    have := hle z (List.mem_cons_self ..)
    have hs : 0 < sizeO z := by unfold sizeO; omega
    have := Nat.mod_lt n hs
    unfold sizeO at *
    omega
  | z :: xs, n, j + 1, x, y, hle, h, h2 => by
    simp [digs] at h h2
    exact digs_in xs _ j x y (fun x hx => hle x (List.mem_cons_of_mem _ hx)) h h2
theorem digs_onto : ∀ (xs : List OpR) (ys : List Int), ys.length = xs.length → (∀ (j : Nat) (x : OpR) (y : Int), xs[j]? = some x → ys[j]? = some y → x.lo ≤ y ∧ y ≤ x.hi) → ∃ n, n < totalO xs ∧ digs xs n = ys
  | [], ys, hl, _ => ⟨0, by simp [totalO], by simp [digs, List.length_eq_zero_iff.1 hl]⟩
  | x :: xs, [], hl, _ => by simp at hl
  | x :: xs, y :: ys, hl, h => by
    obtain ⟨n, hn, e⟩ := digs_onto xs ys (by simpa using hl) (fun j a b ha hb => h (j + 1) a b (by simpa using ha) (by simpa using hb))
    have h0 := h 0 x y rfl rfl
    have hs : 0 < sizeO x := by unfold sizeO; omega
    have hd : (y - x.lo).toNat < sizeO x := by unfold sizeO; omega
    refine ⟨(y - x.lo).toNat + sizeO x * n, ?_, ?_⟩
    · unfold totalO
      have := Nat.mul_le_mul_left (sizeO x) (show n + 1 ≤ totalO xs from hn)
      rw [Nat.mul_add, Nat.mul_one] at this
      omega
    · unfold digs
      rw [Nat.add_mul_mod_self_left, Nat.mod_eq_of_lt hd, Nat.add_mul_div_left _ _ hs, Nat.div_eq_of_lt hd, Nat.zero_add, e]
      congr 1
      omega
/-- the rank of a value among values -/
def rankI (ys : List Int) (y : Int) : Int := 1 + cntI y ys
theorem cnt_sur_le (c : Int) (u : Int) : ∀ (xs : List OpR) (ys : List Int) (i : Nat), ys.length = xs.length → (∀ (j : Nat) (x : OpR) (y : Int), xs[j]? = some x → ys[j]? = some y → x.lo ≤ y ∧ y ≤ x.hi) → (∀ j : Nat, ((i + j : Nat) : Int) = c → ys[j]? = some u ∨ ys.length ≤ j) →
    cnt (surP c u) xs i ≤ cntI u ys ∧ cntI u ys ≤ cnt (perP c u) xs i
  | [], ys, i, hl, _, _ => by
    have : ys = [] := List.length_eq_zero_iff.1 hl
    subst this
    simp [cnt, cntI]
  | x :: xs, [], i, hl, _, _ => by simp at hl
  | x :: xs, y :: ys, i, hl, h, hc => by
    have ih := cnt_sur_le c u xs ys (i + 1) (by simpa using hl) (fun j a b ha hb => h (j + 1) a b (by simpa using ha) (by simpa using hb)) (fun j hj => by
      have := hc (j + 1) (by rw [← hj]; congr 1; omega)
      simpa using this)
    have h0 := h 0 x y rfl rfl
    rw [cntI_cons]
    by_cases hi : ((i : Nat) : Int) = c
    · have hy : y = u := by
        rcases hc 0 (by simpa using hi) with h1 | h1
        · simpa using h1
        · simp at h1
      have e1 : (((i : Nat) : Int) == c) = true := beq_iff_eq.2 hi
      have e2 : surP c u i x = false := by unfold surP; rw [e1]; rfl
      have e3 : perP c u i x = false := by unfold perP; rw [e1]; rfl
      simp only [cnt, e2, e3, Bool.false_eq_true, if_false]
      rw [if_neg (by omega)]
      omega
    · have e1 : (((i : Nat) : Int) == c) = false := beq_eq_false_iff_ne.2 hi
      have e2 : surP c u i x = decide (u < x.lo) := by unfold surP; rw [e1]; rfl
      have e3 : perP c u i x = decide (u < x.hi) := by unfold perP; rw [e1]; rfl
      simp only [cnt, e2, e3, decide_eq_true_eq]
      repeat' split
      all_goals omega
/-- the ranks of all completions are those that are possible -/
theorem comps_poss {xs : List OpR} {cl : Nat} {x : OpR} (hx : xs[cl]? = some x) (hle : ∀ x ∈ xs, x.lo ≤ x.hi) {r : Int} (hr : 1 ≤ r) :
    possB xs cl r x = true ↔ ∃ n, n < totalO xs ∧ ∃ y, (digs xs n)[cl]? = some y ∧ rankI (digs xs n) y = r := by
  constructor
  · intro hp
    have hle' : ∀ (j : Nat) (x : OpR), xs[j]? = some x → x.lo ≤ x.hi := fun j z hz => hle z (List.mem_of_getElem? hz)
    have hg := wit_good xs cl x r hx hle' hr hp
    have hps := hp
    rw [poss_same xs cl x hr (hle' cl x hx)] at hps
    unfold isPoss at hps
    simp only [Bool.and_eq_true, decide_eq_true_eq] at hps
    have ht := turn_ge x.lo (others xs cl) r
    generalize turnV x.lo (others xs cl) r = T at *
    generalize r - 1 - cntV (fun y => y.lo) T (others xs cl) = b at *
    have hin := fun j z y hz hy => witL_in cl T xs 0 b j z y hle (fun k z hz hk => by
      have : k = cl := by omega
      subst this
      rw [hx] at hz
      cases hz
      exact ⟨ht, hps.1⟩) hz hy
    obtain ⟨n, hn, e⟩ := digs_onto xs (witL cl T xs 0 b) (witL_len _ _ _ _ _) hin
    have hlt := (List.getElem?_eq_some_iff.1 hx).1
    refine ⟨n, hn, T, by rw [e]; exact witL_at cl T xs 0 b cl hlt (by omega), ?_⟩
    rw [e]
    unfold witE at hg
    unfold rankI
    split at hg
    · omega
    · split at hg
      · assumption
      · omega
  · rintro ⟨n, _, y, hy, hr2⟩
    unfold rankI at hr2
    unfold possB
    rw [someV_iff]
    have hin := digs_in xs n cl x y hle hx hy
    refine ⟨y, hin.1, by omega, ?_⟩
    have := cnt_sur_le (cl : Int) y xs (digs xs n) 0 (digs_len _ _) (fun j a b ha hb => digs_in xs n j a b hle ha hb) (fun j hj => by
      have : j = cl := by omega
      subst this
      exact .inl hy)
    unfold okV
    rw [Bool.and_eq_true, decide_eq_true_eq, decide_eq_true_eq]
    omega
/-- the ranks of the first completions, each of them once -/
def seenK (xs : List OpR) (cl : Nat) : Nat → List Int
  | 0 => []
  | n + 1 => if rankI (digs xs n) ((digs xs n).getD cl 0) ∈ seenK xs cl n then seenK xs cl n else seenK xs cl n ++ [rankI (digs xs n) ((digs xs n).getD cl 0)]
theorem seenK_mem {xs : List OpR} {cl : Nat} {r : Int} : ∀ {n : Nat}, r ∈ seenK xs cl n ↔ ∃ k, k < n ∧ rankI (digs xs k) ((digs xs k).getD cl 0) = r
  | 0 => by simp [seenK]
  | n + 1 => by
    have ih := @seenK_mem xs cl r n
    unfold seenK
    split
    · rename_i h
      rw [ih]
      constructor
      · rintro ⟨k, h1, h2⟩; exact ⟨k, by omega, h2⟩
      · rintro ⟨k, h1, h2⟩
        by_cases hk : k = n
        · subst hk; rw [h2] at h; exact ih.1 h
        · exact ⟨k, by omega, h2⟩
    · rw [List.mem_append, ih, List.mem_singleton]
      constructor
      · rintro (⟨k, h1, h2⟩ | h2)
        · exact ⟨k, by omega, h2⟩
        · exact ⟨n, by omega, h2.symm⟩
      · rintro ⟨k, h1, h2⟩
        by_cases hk : k = n
        · subst hk; exact .inr h2.symm
        · exact .inl ⟨k, by omega, h2⟩
theorem seenK_nodup (xs : List OpR) (cl : Nat) : ∀ n, (seenK xs cl n).Nodup
  | 0 => List.nodup_nil
  | n + 1 => by
    unfold seenK
    split
    · exact seenK_nodup xs cl n
    · rename_i h
      rw [List.nodup_append]
      exact ⟨seenK_nodup xs cl n, by simp, fun a ha b hb e => by simp at hb; subst hb; subst e; exact h ha⟩
theorem seen_poss {xs : List OpR} {cl : Nat} {x : OpR} (hx : xs[cl]? = some x) (hle : ∀ x ∈ xs, x.lo ≤ x.hi) {r : Int} (hr : 1 ≤ r) : r ∈ seenK xs cl (totalO xs) ↔ possB xs cl r x = true := by
  rw [seenK_mem, comps_poss hx hle hr]
  have hlt := (List.getElem?_eq_some_iff.1 hx).1
  constructor
  · rintro ⟨k, h1, h2⟩
    have hy : (digs xs k)[cl]? = some ((digs xs k)[cl]'(by rw [digs_len]; exact hlt)) := List.getElem?_eq_getElem _
    exact ⟨k, h1, _, hy, by rw [← h2, List.getD_eq_getElem?_getD, hy]; rfl⟩
  · rintro ⟨k, h1, y, hy, h2⟩
    exact ⟨k, h1, by rw [← h2, List.getD_eq_getElem?_getD, hy]; rfl⟩
theorem ranksK_mem {xs : List OpR} {c : Int} {x : OpR} {r : Int} : ∀ {k : Nat}, r ∈ ranksK xs c x k ↔ 1 ≤ r ∧ r ≤ k ∧ possB xs c r x = true
  | 0 => by simp [ranksK]; omega
  | k + 1 => by
    have ih := @ranksK_mem xs c x r k
    unfold ranksK
    rw [List.mem_append, ih]
    constructor
    · rintro (⟨h1, h2, h3⟩ | h)
      · exact ⟨h1, by omega, h3⟩
      · split at h
        · rename_i hp
          simp at h
          subst h
          exact ⟨by omega, by omega, by simpa using hp⟩
        · cases h
    · rintro ⟨h1, h2, h3⟩
      by_cases hk : r = ((k : Int) + 1)
      · subst hk
        refine .inr ?_
        rw [if_pos h3]
        simp
      · exact .inl ⟨h1, by omega, h3⟩
theorem ranksK_nodup (xs : List OpR) (c : Int) (x : OpR) : ∀ k, (ranksK xs c x k).Nodup
  | 0 => List.nodup_nil
  | k + 1 => by
    unfold ranksK
    rw [List.nodup_append]
    refine ⟨ranksK_nodup xs c x k, by split <;> simp, fun a ha b hb e => ?_⟩
    have := ranksK_mem.1 ha
    split at hb
    · simp at hb; omega
    · cases hb
theorem rankI_bounds (ys : List Int) (y : Int) (cl : Nat) (hy : ys[cl]? = some y) : 1 ≤ rankI ys y ∧ rankI ys y ≤ ys.length := by
  unfold rankI cntI
  have hm : y ∈ ys := List.mem_of_getElem? hy
  have : ys.countP (fun z => decide (y < z)) < ys.length := by
    rw [List.countP_eq_length_filter]
    have h1 := List.length_filter_le (fun z => decide (y < z)) ys
    rcases Nat.lt_or_ge (ys.filter fun z => decide (y < z)).length ys.length with h | h
    · exact h
    · have := List.length_filter_eq_length_iff.1 (show (ys.filter fun z => decide (y < z)).length = ys.length by omega)
      have := this y hm
      simp at this
  omega
/-- as many ranks are possible as are seen -/
theorem seen_len {xs : List OpR} {cl : Nat} {x : OpR} (hx : xs[cl]? = some x) (hle : ∀ x ∈ xs, x.lo ≤ x.hi) : (ranksK xs cl x xs.length).length = (seenK xs cl (totalO xs)).length := by
  have hlt := (List.getElem?_eq_some_iff.1 hx).1
  have hmem : ∀ r, r ∈ ranksK xs cl x xs.length ↔ r ∈ seenK xs cl (totalO xs) := fun r => by
    constructor
    · intro h
      obtain ⟨h1, h2, h3⟩ := ranksK_mem.1 h
      exact (seen_poss hx hle h1).2 h3
    · intro h
      obtain ⟨k, h1, h2⟩ := seenK_mem.1 h
      have hy : (digs xs k)[cl]? = some ((digs xs k)[cl]'(by rw [digs_len]; exact hlt)) := List.getElem?_eq_getElem _
      have hb := rankI_bounds _ _ cl hy
      rw [List.getD_eq_getElem?_getD, hy] at h2
      have h2' : rankI (digs xs k) ((digs xs k)[cl]'(by rw [digs_len]; exact hlt)) = r := h2
      have hdl := digs_len xs k
      have h1r : 1 ≤ r := by omega
      exact ranksK_mem.2 ⟨h1r, by omega, (seen_poss hx hle h1r).1 h⟩
  exact ((List.perm_ext_iff_of_nodup (ranksK_nodup _ _ _ _) (seenK_nodup _ _ _)).2 hmem).length_eq
end Go.Proofs.YtimbcjldejifaaaGreatDoor
namespace Go.Proofs.YtimbcjldejifaaaGreatDoor
open Go.RowKit Go.Lib
set_option linter.unusedSimpArgs false
set_option linter.unusedVariables false
/-- the place of a state -/
def gradeZ (l : List UInt8) : Int := if l = [] then 0 else if l = [100, 110, 115] then 1 else if l = [100, 110, 102] then 2 else if l = [100, 115, 113] then 3 else -1
inductive Grade (l : List UInt8) : Prop where
  | none (h : l = [])
  | dns (h : l = [100, 110, 115])
  | dnf (h : l = [100, 110, 102])
  | dsq (h : l = [100, 115, 113])
  | other (h0 : l.isEmpty = false) (h1 : (l == [100, 110, 115]) = false) (h2 : (l == [100, 110, 102]) = false) (h3 : (l == [100, 115, 113]) = false)
theorem grade_of (l : List UInt8) : Grade l := by
  by_cases h0 : l = []
  · exact .none h0
  by_cases h1 : l = [100, 110, 115]
  · exact .dns h1
  by_cases h2 : l = [100, 110, 102]
  · exact .dnf h2
  by_cases h3 : l = [100, 115, 113]
  · exact .dsq h3
  exact .other (by cases l with | nil => exact absurd rfl h0 | cons _ _ => rfl) (by simpa using h1) (by simpa using h2) (by simpa using h3)
theorem gradeZ_other {l : List UInt8} (h0 : l.isEmpty = false) (h1 : (l == [100, 110, 115]) = false) (h2 : (l == [100, 110, 102]) = false) (h3 : (l == [100, 115, 113]) = false) : gradeZ l = -1 := by
  unfold gradeZ
  rw [if_neg (by intro e; rw [e] at h0; cases h0), if_neg (by simpa using h1), if_neg (by simpa using h2), if_neg (by simpa using h3)]
/-- the states' table, read at a place -/
theorem tab_at (w : World) (k : Nat) (s : ByteArray) (h : [(⟨#[]⟩ : ByteArray), ⟨#[100, 110, 115]⟩, ⟨#[100, 110, 102]⟩, ⟨#[100, 115, 113]⟩][k]? = some s) :
    (Instr.index 137 (.agg #[.string ⟨#[]⟩, .string ⟨#[100, 110, 115]⟩, .string ⟨#[100, 110, 102]⟩, .string ⟨#[100, 115, 113]⟩]) (.int .i64 (k : Int))).run Tryz.prog w = .ok (.string s) w := by
  have hu := Tryz.underlying137
  have hs := Tryz.underlying9
  rcases k with _ | _ | _ | _ | k
  · simp at h; subst h; simp [Instr.index, asIntOf, run_underlying hu, part, isAgg, run_underlying hs]
  · simp at h; subst h; simp [Instr.index, asIntOf, run_underlying hu, part, isAgg, run_underlying hs]
  · simp at h; subst h; simp [Instr.index, asIntOf, run_underlying hu, part, isAgg, run_underlying hs]
  · simp at h; subst h; simp [Instr.index, asIntOf, run_underlying hu, part, isAgg, run_underlying hs]
  · simp at h
theorem beq_flip {a b : List UInt8} (h : (a == b) = false) : (b == a) = false := by
  cases hh : b == a with
  | false => rfl
  | true => rw [eq_of_beq hh] at h; simp at h
set_option maxHeartbeats 1000000 in
set_option maxRecDepth 100000 in
theorem badness_c (s : ByteArray) (w : World) (h : StatesIn w) :
    Calls Tryz.prog 50 #[.string s] w fun e w' => e = .returned (.int .i64 (gradeZ s.toList)) ∧ w = w' := by
  obtain ⟨c0, c1, c2, c3⟩ := h.cells
  clear h
  have t0 : ∀ W, (Instr.index 137 (.agg #[.string ⟨#[]⟩, .string ⟨#[100, 110, 115]⟩, .string ⟨#[100, 110, 102]⟩, .string ⟨#[100, 115, 113]⟩]) (.int .i64 0)).run Tryz.prog W = .ok (.string ⟨#[]⟩) W := fun W => tab_at W 0 ⟨#[]⟩ rfl
  have t1 : ∀ W, (Instr.index 137 (.agg #[.string ⟨#[]⟩, .string ⟨#[100, 110, 115]⟩, .string ⟨#[100, 110, 102]⟩, .string ⟨#[100, 115, 113]⟩]) (.int .i64 1)).run Tryz.prog W = .ok (.string ⟨#[100, 110, 115]⟩) W := fun W => tab_at W 1 ⟨#[100, 110, 115]⟩ rfl
  have t2 : ∀ W, (Instr.index 137 (.agg #[.string ⟨#[]⟩, .string ⟨#[100, 110, 115]⟩, .string ⟨#[100, 110, 102]⟩, .string ⟨#[100, 115, 113]⟩]) (.int .i64 2)).run Tryz.prog W = .ok (.string ⟨#[100, 110, 102]⟩) W := fun W => tab_at W 2 ⟨#[100, 110, 102]⟩ rfl
  have t3 : ∀ W, (Instr.index 137 (.agg #[.string ⟨#[]⟩, .string ⟨#[100, 110, 115]⟩, .string ⟨#[100, 110, 102]⟩, .string ⟨#[100, 115, 113]⟩]) (.int .i64 3)).run Tryz.prog W = .ok (.string ⟨#[100, 115, 113]⟩) W := fun W => tab_at W 3 ⟨#[100, 115, 113]⟩ rfl
  have HG : ∀ z, gradeZ s.toList = z → Hid (gradeZ s.toList = z) := fun z h => h
  rcases grade_of s.toList with h | h | h | h | ⟨h0, h1, h2, h3⟩
  · replace HG := HG 0 (by rw [h]; rfl)
    go_enter Tryz.func50, Tryz.ntmps50
    go_wp2_with fail
    refine wp_loop_rounds 6 ?_
    rw [rounds_succ]
    go_wp2_with fail
    go_ret
    exact ⟨by rw [HG.out]; rfl, rfl⟩
  · replace HG := HG 1 (by rw [h]; rfl)
    go_enter Tryz.func50, Tryz.ntmps50
    go_wp2_with fail
    refine wp_loop_rounds 6 ?_
    rw [rounds_succ]
    go_wp2_with fail
    rw [rounds_succ]
    go_wp2_with fail
    go_ret
    exact ⟨by rw [HG.out]; rfl, rfl⟩
  · replace HG := HG 2 (by rw [h]; rfl)
    go_enter Tryz.func50, Tryz.ntmps50
    go_wp2_with fail
    refine wp_loop_rounds 6 ?_
    rw [rounds_succ]
    go_wp2_with fail
    rw [rounds_succ]
    go_wp2_with fail
    rw [rounds_succ]
    go_wp2_with fail
    go_ret
    exact ⟨by rw [HG.out]; rfl, rfl⟩
  · replace HG := HG 3 (by rw [h]; rfl)
    go_enter Tryz.func50, Tryz.ntmps50
    go_wp2_with fail
    refine wp_loop_rounds 6 ?_
    rw [rounds_succ]
    go_wp2_with fail
    rw [rounds_succ]
    go_wp2_with fail
    rw [rounds_succ]
    go_wp2_with fail
    rw [rounds_succ]
    go_wp2_with fail
    go_ret
    exact ⟨by rw [HG.out]; rfl, rfl⟩
  · replace HG := HG (-1) (gradeZ_other h0 h1 h2 h3)
    have e1 := beq_flip h1
    have e2 := beq_flip h2
    have e3 := beq_flip h3
    go_enter Tryz.func50, Tryz.ntmps50
    go_wp2_with fail
    refine wp_loop_rounds 6 ?_
    rw [rounds_succ]
    go_wp2_with fail
    rw [rounds_succ]
    go_wp2_with fail
    rw [rounds_succ]
    go_wp2_with fail
    rw [rounds_succ]
    go_wp2_with fail
    rw [rounds_succ]
    go_wp2_with fail
    go_ret
    exact ⟨by rw [HG.out]; rfl, rfl⟩
theorem hasValues_c (c s : ByteArray) (v : Value) (hv : ∃ p n cap, v = .slice p n cap) (w : World) :
    Calls Tryz.prog 39 #[.agg #[.string c, .string s, v]] w fun e w' => e = .returned (.bool s.toList.isEmpty) ∧ Gr w w' := by
  obtain ⟨p, n, cap, rfl⟩ := hv
  cases h : s.toList.isEmpty
  all_goals
    have h2 := h
    have HE := Lib.hid h2
    first
      | (have h3 : s.toList = [] := by simpa using h)
      | (have h3 : ¬ s.toList = [] := by simpa using h)
    go_enter Tryz.func39, Tryz.ntmps39
    go_wp2_with fail
    go_ret
    exact ⟨rfl, (Gr.refl w).alloc _⟩
end Go.Proofs.YtimbcjldejifaaaGreatDoor
namespace Go.Proofs.YtimbcjldejifaaaGreatDoor
open Go.RowKit Go.Lib
set_option linter.unusedSimpArgs false
set_option linter.unusedVariables false
theorem one_c (i n : Int) (w : World) :
    Calls Tryz.prog 77 #[.int .i64 i, .int .i64 n] w fun e w' => e = .returned (.int .i64 (outE n (-999999999) 999999999)) ∧ w = w' := by
  have HR := Lib.hid (fun W => range_c n (-999999999) 999999999 W)
  go_enter Tryz.func77, Tryz.ntmps77
  go_wp2_with fail
  refine (HR.out _).mono ?_
  rintro e w4 ⟨rfl, rfl⟩
  go_wp2_with fail
  go_ret
  exact ⟨rfl, rfl⟩
/-- the error of values -/
def valsE (xs : List Int) : Int := firstE (xs.map fun n => outE n (-999999999) 999999999)
theorem valsE_drop {xs : List Int} {k : Nat} {x : Int} (h : xs[k]? = some x) : valsE (xs.drop k) = if outE x (-999999999) 999999999 = 0 then valsE (xs.drop (k + 1)) else outE x (-999999999) 999999999 := by
  unfold valsE
  rw [List.map_drop, List.map_drop]
  exact firstE_drop (by rw [List.getElem?_map, h]; rfl)
set_option maxHeartbeats 1000000 in
set_option maxRecDepth 100000 in
theorem findV_pos (xs : List Int) (n b off cap : Nat) (w : World) (hn : xs.length = n) (hc : ∀ i x, xs[i]? = some x → w.cell? ⟨b, off + i, none⟩ = some (.int .i64 x)) (hs : n ≤ 1000) :
    Calls Tryz.prog 126 #[.slice (some ⟨b, off, none⟩) n cap, .func (.func 77) #[] #[]] w fun e w' => (∃ i : Int, e = .returned (.tuple #[.int .i64 i, .int .i64 (valsE xs)])) ∧ w = w' := by
  have HN := Lib.hid hn
  have HC := Lib.hid hc
  clear hc
  go_enter Tryz.func126, Tryz.ntmps126
  go_wp2_with fail
  go_loopg [11] n (fun g s11 wr => ∃ k : Nat, s11 = .int .i64 k ∧ g + k = n ∧ wr = w ∧ Hid (valsE (xs.drop k) = valsE xs))
  case atStart => exact ⟨0, rfl, by omega, rfl, by simp [Hid]⟩
  case round =>
    obtain ⟨k, rfl, hk, rfl, HF⟩ := hrel
    by_cases hlt : k < n
    · obtain ⟨x, hx⟩ : ∃ x, xs[k]? = some x := ⟨xs[k]'(by omega), List.getElem?_eq_getElem (by omega)⟩
      have hcell := HC.out k x hx
      have hf := valsE_drop hx
      have HT : ∀ i W, _ := fun i W => one_c i x W
      clear hx
      rcases outE_or x (-999999999) 999999999 with h0 | h0
      · rw [h0] at HT hf
        rw [if_pos rfl] at hf
        replace HT := Lib.hid HT
        have HF2 := Lib.hid hf
        clear hf h0
        go_wp2_with (refine (HT.out _ _).mono ?_; rintro e w4 ⟨rfl, rfl⟩)
        go_roundg (gk - 1)
        case measure => omega
        case rel => exact ⟨k + 1, by go_num, by omega, rfl, by unfold Hid; rw [← HF2.out, HF.out]⟩
      · rw [h0] at HT hf
        rw [if_neg (by decide)] at hf
        replace HT := Lib.hid HT
        have HF2 := Lib.hid hf
        clear hf h0
        go_wp2_with (refine (HT.out _ _).mono ?_; rintro e w4 ⟨rfl, rfl⟩)
        exact bodyPost_ret (v := .tuple #[.int .i64 k, .int .i64 3]) (by simp [results, Tryz.results126, go_sem]) rfl ⟨⟨k, by rw [← HF.out, HF2.out]⟩, rfl⟩
    · have : xs.drop k = [] := List.drop_of_length_le (by omega)
      have HE : Hid (valsE xs = 0) := by unfold Hid; rw [← HF.out, this]; rfl
      clear this
      go_wp2_with fail
      exact bodyPost_ret (v := .tuple #[.int .i64 0, .int .i64 0]) (by simp [results, Tryz.results126, go_sem]) rfl ⟨⟨0, by rw [HE.out]⟩, rfl⟩
set_option maxRecDepth 100000 in
theorem findV_nil (p : Option Addr) (cap : Nat) (w : World) :
    Calls Tryz.prog 126 #[.slice p 0 cap, .func (.func 77) #[] #[]] w fun e w' => (∃ i : Int, e = .returned (.tuple #[.int .i64 i, .int .i64 0])) ∧ w = w' := by
  go_enter Tryz.func126, Tryz.ntmps126
  go_wp2_with fail
  refine wp_loop_rounds 1 ?_
  rw [rounds_succ]
  go_wp2_with fail
  exact bodyPost_ret (v := .tuple #[.int .i64 0, .int .i64 0]) (by simp [results, Tryz.results126, go_sem]) rfl ⟨⟨0, rfl⟩, rfl⟩
theorem eachV_c {v : Value} {xs : List Int} (w : World) (h : IntsV w v xs) (hs : xs.length ≤ 1000) :
    Calls Tryz.prog 76 #[v, .func (.func 77) #[] #[]] w fun e w' => e = .returned (.int .i64 (valsE xs)) ∧ w = w' := by
  have HF : Hid (Calls Tryz.prog 126 #[v, .func (.func 77) #[] #[]] w fun e w' => (∃ i : Int, e = .returned (.tuple #[.int .i64 i, .int .i64 (valsE xs)])) ∧ w = w') := by
    obtain ⟨⟨p, cap, rfl, hh⟩⟩ := h
    by_cases h0 : 0 < xs.length
    · obtain ⟨b, off, rfl, hc⟩ := hh h0
      exact findV_pos xs _ b off cap w rfl hc hs
    · have : xs = [] := List.eq_nil_of_length_eq_zero (by omega)
      subst this
      exact findV_nil p cap w
  obtain ⟨⟨p, cap, rfl, _⟩⟩ := h
  go_enter Tryz.func76, Tryz.ntmps76
  go_wp2_with fail
  refine HF.out.mono ?_
  rintro e w4 ⟨⟨i, rfl⟩, rfl⟩
  go_wp2_with fail
  go_ret
  exact ⟨rfl, rfl⟩
end Go.Proofs.YtimbcjldejifaaaGreatDoor
