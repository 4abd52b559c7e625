/- Rounds: the program's CheckRound. -/
import Derived.Test.YtjkiidkacpffnaaGreatDoorGNames
import Derived.Laws.AppendOwn
namespace Go.Proofs.YtjkiidkacpffnaaGreatDoor
open Go.RowKit Go.Lib
set_option linter.unusedSimpArgs false
set_option linter.unusedVariables false
end Go.Proofs.YtjkiidkacpffnaaGreatDoor
namespace Go.Proofs.YtjkiidkacpffnaaGreatDoor
open Go.RowKit Go.Lib
set_option linter.unusedSimpArgs false
set_option linter.unusedVariables false
/-- the slice v reads as the results xs -/
structure RowsV (w : World) (v : Value) (xs : List RowR) : Prop where
  mk' ::
  out : ∃ p cap, v = .slice p xs.length cap ∧ (xs.length ≤ cap ∧ cap ≤ maxLen) ∧ (0 < xs.length → ∃ b off, p = some ⟨b, off, none⟩ ∧ ∀ i x, xs[i]? = some x → RowAt w b (off + i * 3) x)
theorem RowsV.gr {w w' : World} {v : Value} {xs : List RowR} (h : RowsV w v xs) (k : Gr w w') : RowsV w' v xs := by
  obtain ⟨⟨p, cap, rfl, hcap, hh⟩⟩ := h
  refine ⟨p, cap, rfl, hcap, fun h0 => ?_⟩
  obtain ⟨b, off, h1, h2⟩ := hh h0
  exact ⟨b, off, h1, fun i x hx => (h2 i x hx).gr k⟩
end Go.Proofs.YtjkiidkacpffnaaGreatDoor
namespace Go.Proofs.YtjkiidkacpffnaaGreatDoor
open Go.RowKit Go.Lib
set_option linter.unusedSimpArgs false
set_option linter.unusedVariables false
/-- the first error, from a place on -/
def errG {α : Type} (E : Nat → α → Int) (xs : List α) : Nat → Nat → Int
  | 0, _ => 0
  | k + 1, i => match xs[i]? with
    | some x => if E i x = 0 then errG E xs k (i + 1) else E i x
    | none => 0
theorem errG_step {α : Type} {E : Nat → α → Int} {xs : List α} {n i : Nat} {x : α} (hi : i < n) (h : xs[i]? = some x) : errG E xs (n - i) i = if E i x = 0 then errG E xs (n - (i + 1)) (i + 1) else E i x := by
  obtain ⟨k, hk⟩ : ∃ k, n - i = k + 1 := ⟨n - i - 1, by omega⟩
  have hk2 : n - (i + 1) = k := by omega
  rw [hk, hk2]
  simp only [errG, h]
theorem errG_zero {α : Type} {E : Nat → α → Int} {xs : List α} : ∀ (k i : Nat), errG E xs k i = 0 → i + k ≤ xs.length → ∀ j x, i ≤ j → j < i + k → xs[j]? = some x → E j x = 0
  | 0, i, _, _, j, x, h1, h2, _ => by omega
  | k + 1, i, h, hl, j, x, h1, h2, hx => by
    have hi : i < xs.length := by omega
    simp only [errG, List.getElem?_eq_getElem hi] at h
    split at h
    · rename_i h0
      rcases Nat.lt_or_ge i j with h3 | h3
      · exact errG_zero k (i + 1) h (by omega) j x (by omega) (by omega) hx
      · obtain rfl : i = j := by omega
        rw [List.getElem?_eq_getElem hi] at hx
        simp only [Option.some.injEq] at hx
        rw [← hx]; exact h0
    · rename_i h0
      exact absurd h h0
/-- the error of a name -/
def nmE (s : ByteArray) : Int := if Nm s then 0 else 8
theorem bx5 (w : World) (a0 a1 a2 a3 a4 : Value) (T : Nat) : ∃ W, w.alloc (.cells #[a0, a1, a2, a3, a4] T) = W ∧ Gr w W ∧ W.cell? ⟨w.heap.size, 0, none⟩ = some a0 ∧ W.cell? ⟨w.heap.size, 1, none⟩ = some a1 ∧ W.cell? ⟨w.heap.size, 2, none⟩ = some a2 ∧ W.cell? ⟨w.heap.size, 3, none⟩ = some a3 ∧ W.cell? ⟨w.heap.size, 4, none⟩ = some a4 :=
  ⟨_, rfl, (Gr.refl w).alloc _, cell_new w #[a0, a1, a2, a3, a4] T 0 (by simp), cell_new w #[a0, a1, a2, a3, a4] T 1 (by simp), cell_new w #[a0, a1, a2, a3, a4] T 2 (by simp), cell_new w #[a0, a1, a2, a3, a4] T 3 (by simp), cell_new w #[a0, a1, a2, a3, a4] T 4 (by simp)⟩
theorem fst5 (x y z u q : Int) (b cap : Nat) (w : World) (hx : w.cell? ⟨b, 0, none⟩ = some (.int .i64 x)) (hy : w.cell? ⟨b, 1, none⟩ = some (.int .i64 y)) (hz : w.cell? ⟨b, 2, none⟩ = some (.int .i64 z)) (hu : w.cell? ⟨b, 3, none⟩ = some (.int .i64 u)) (hq : w.cell? ⟨b, 4, none⟩ = some (.int .i64 q)) :
    Calls Tryz.prog 36 #[.slice (some ⟨b, 0, none⟩) 5 cap] w fun e w' => e = .returned (.int .i64 (firstE [x, y, z, u, q])) ∧ w = w' :=
  first_c0 b 5 cap [x, y, z, u, q] w rfl (fun i v h => by
    rcases i with _ | _ | _ | _ | _ | i <;> simp at h <;> subst h <;> assumption) (by omega)
/-- the range with its answer under a name -/
theorem range_e (n l h : Int) : ∃ z, z = outE n l h ∧ ∀ W, Calls Tryz.prog 38 #[.int .i64 n, .int .i64 l, .int .i64 h] W fun e w' => e = .returned (.int .i64 z) ∧ W = w' :=
  ⟨_, rfl, fun W => range_c n l h W⟩
end Go.Proofs.YtjkiidkacpffnaaGreatDoor
namespace Go.Proofs.YtjkiidkacpffnaaGreatDoor
open Go.RowKit Go.Lib
set_option linter.unusedSimpArgs false
set_option linter.unusedVariables false
/-- the first place of a name, from a place on -/
def findS (s : ByteArray) (ns : List ByteArray) : Nat → Nat → Int
  | 0, _ => -1
  | k + 1, i => match ns[i]? with
    | some t => if s.toList == t.toList then i else findS s ns k (i + 1)
    | none => -1
theorem findS_step {s : ByteArray} {ns : List ByteArray} {i n : Nat} {t : ByteArray} (h : ns[i]? = some t) (hi : i < n) : findS s ns (n - i) i = if s.toList == t.toList then (i : Int) else findS s ns (n - (i + 1)) (i + 1) := by
  obtain ⟨k, hk⟩ : ∃ k, n - i = k + 1 := ⟨n - i - 1, by omega⟩
  rw [hk, show n - (i + 1) = k by omega]
  simp only [findS, h]
set_option maxHeartbeats 1000000 in
set_option maxRecDepth 100000 in
theorem indexS_pos (ns : List ByteArray) (n b off cap : Nat) (s : ByteArray) (w : World) (hn : n ≤ ns.length) (h1 : n ≤ 1000) (hc : ∀ i t, ns[i]? = some t → w.cell? ⟨b, off + i, none⟩ = some (.string t)) :
    Calls Tryz.prog 171 #[.slice (some ⟨b, off, none⟩) n cap, .string s] w fun e w' => e = .returned (.int .i64 (findS s ns n 0)) ∧ w = w' := by
  have HC := Lib.hid hc
  have HX := Lib.hid (fun k (h : k < n) => (show ∃ x, ns[k]? = some x from ⟨ns[k]'(by omega), List.getElem?_eq_getElem _⟩))
  have HS := Lib.hid (fun i t (h : ns[i]? = some t) (hi : i < n) => findS_step (s := s) h hi)
  have HE : Hid (findS s ns 0 n = -1) := rfl
  clear hc hn
  generalize findS s ns = F at *
  go_enter Tryz.func171, Tryz.ntmps171
  go_wp2_with fail
  go_loopg [8] n (fun gk s8 wr => ∃ i : Nat, s8 = .int .i64 i ∧ gk + i = n ∧ wr = w ∧ Hid (F (n - i) i = F n 0))
  case atStart => exact ⟨0, rfl, by omega, rfl, by simp [Hid]⟩
  case round =>
    obtain ⟨i, rfl, hi, rfl, HF⟩ := hrel
    by_cases hlt : i < n
    · obtain ⟨t, ht⟩ := HX.out i hlt
      have c0 := HC.out i t ht
      have hst := HS.out i t ht hlt
      have hi2 : (i : Int) < n := by omega
      cases hh : (s.toList == t.toList)
      · rw [hh] at hst
        have HST := Lib.hid hst
        have hne : ¬ s.toList = t.toList := by simpa using hh
        clear hst ht
        go_wp2_with fail
        go_roundg (gk - 1)
        case measure => omega
        case rel => exact ⟨i + 1, by go_num, by omega, rfl, by have := HF.out; rw [HST.out] at this; simpa [Hid] using this⟩
      · rw [hh] at hst
        have HST := Lib.hid hst
        have hne : s.toList = t.toList := by simpa using hh
        clear hst ht
        go_wp2_with fail
        go_ret
        have q : F n 0 = i := by have := HF.out; rw [HST.out] at this; simpa using this.symm
        exact ⟨by rw [q]; rfl, rfl⟩
    · obtain rfl : i = n := by omega
      have := HF.out
      rw [Nat.sub_self, HE.out] at this
      have HT := Lib.hid this
      clear this
      go_wp2_with fail
      go_ret
      exact ⟨by rw [← HT.out]; rfl, rfl⟩
end Go.Proofs.YtjkiidkacpffnaaGreatDoor
namespace Go.Proofs.YtjkiidkacpffnaaGreatDoor
open Go.RowKit Go.Lib
set_option linter.unusedSimpArgs false
set_option linter.unusedVariables false
theorem offName_c (s : ByteArray) (w : World) :
    Calls Tryz.prog 37 #[.string s] w fun e w' => e = .returned (.int .i64 (nmE s)) ∧ Gr w w' := by
  have HN := Lib.hid (isName_c s w)
  have HI := Lib.hid (fun b W => if_c b 8 W)
  cases h : decide (Nm s)
  · have HE : Hid (nmE s = 8) := by unfold Hid nmE; rw [if_neg (of_decide_eq_false h)]
    rw [h] at HN
    go_enter Tryz.func37, Tryz.ntmps37
    go_wp2_with fail
    refine HN.out.mono ?_
    rintro e w4 ⟨rfl, hg⟩
    go_wp2_with fail
    refine (HI.out _ _).mono ?_
    rintro e w5 ⟨rfl, rfl⟩
    go_wp2_with fail
    go_ret
    exact ⟨by rw [HE.out]; rfl, hg⟩
  · have HE : Hid (nmE s = 0) := by unfold Hid nmE; rw [if_pos (of_decide_eq_true h)]
    rw [h] at HN
    go_enter Tryz.func37, Tryz.ntmps37
    go_wp2_with fail
    refine HN.out.mono ?_
    rintro e w4 ⟨rfl, hg⟩
    go_wp2_with fail
    refine (HI.out _ _).mono ?_
    rintro e w5 ⟨rfl, rfl⟩
    go_wp2_with fail
    go_ret
    exact ⟨by rw [HE.out]; rfl, hg⟩
theorem oname_e (s : ByteArray) : ∃ z, z = nmE s ∧ ∀ W, Calls Tryz.prog 37 #[.string s] W fun e w' => e = .returned (.int .i64 z) ∧ Gr W w' :=
  ⟨_, rfl, fun W => offName_c s W⟩
theorem one_cO (i n : Int) (w : World) :
    Calls Tryz.prog 45 #[.int .i64 i, .int .i64 n] w fun e w' => e = .returned (.int .i64 (outE n (-999999999) 999999999)) ∧ w = w' := by
  have HR := Lib.hid (fun W => range_c n (-999999999) 999999999 W)
  go_enter Tryz.func45, Tryz.ntmps45
  go_wp2_with fail
  refine (HR.out _).mono ?_
  rintro e w4 ⟨rfl, rfl⟩
  go_wp2_with fail
  go_ret
  exact ⟨rfl, rfl⟩
set_option maxHeartbeats 1000000 in
set_option maxRecDepth 100000 in
theorem findV_posO (xs : List Int) (n b off cap : Nat) (w : World) (hn : xs.length = n) (hc : ∀ i x, xs[i]? = some x → w.cell? ⟨b, off + i, none⟩ = some (.int .i64 x)) (hs : n ≤ 1000) :
    Calls Tryz.prog 75 #[.slice (some ⟨b, off, none⟩) n cap, .func (.func 45) #[] #[]] w fun e w' => (∃ i : Int, e = .returned (.tuple #[.int .i64 i, .int .i64 (valsE xs)])) ∧ w = w' := by
  have HN := Lib.hid hn
  have HC := Lib.hid hc
  clear hc
  go_enter Tryz.func75, Tryz.ntmps75
  go_wp2_with fail
  go_loopg [11] n (fun g s11 wr => ∃ k : Nat, s11 = .int .i64 k ∧ g + k = n ∧ wr = w ∧ Hid (valsE (xs.drop k) = valsE xs))
  case atStart => exact ⟨0, rfl, by omega, rfl, by simp [Hid]⟩
  case round =>
    obtain ⟨k, rfl, hk, rfl, HF⟩ := hrel
    by_cases hlt : k < n
    · obtain ⟨x, hx⟩ : ∃ x, xs[k]? = some x := ⟨xs[k]'(by omega), List.getElem?_eq_getElem (by omega)⟩
      have hcell := HC.out k x hx
      have hf := valsE_drop hx
      have HT : ∀ i W, _ := fun i W => one_cO i x W
      clear hx
      rcases outE_or x (-999999999) 999999999 with h0 | h0
      · rw [h0] at HT hf
        rw [if_pos rfl] at hf
        replace HT := Lib.hid HT
        have HF2 := Lib.hid hf
        clear hf h0
        go_wp2_with (refine (HT.out _ _).mono ?_; rintro e w4 ⟨rfl, rfl⟩)
        go_roundg (gk - 1)
        case measure => omega
        case rel => exact ⟨k + 1, by go_num, by omega, rfl, by unfold Hid; rw [← HF2.out, HF.out]⟩
      · rw [h0] at HT hf
        rw [if_neg (by decide)] at hf
        replace HT := Lib.hid HT
        have HF2 := Lib.hid hf
        clear hf h0
        go_wp2_with (refine (HT.out _ _).mono ?_; rintro e w4 ⟨rfl, rfl⟩)
        exact bodyPost_ret (v := .tuple #[.int .i64 k, .int .i64 3]) (by simp [results, Tryz.results75, go_sem]) rfl ⟨⟨k, by rw [← HF.out, HF2.out]⟩, rfl⟩
    · have : xs.drop k = [] := List.drop_of_length_le (by omega)
      have HE : Hid (valsE xs = 0) := by unfold Hid; rw [← HF.out, this]; rfl
      clear this
      go_wp2_with fail
      exact bodyPost_ret (v := .tuple #[.int .i64 0, .int .i64 0]) (by simp [results, Tryz.results75, go_sem]) rfl ⟨⟨0, by rw [HE.out]⟩, rfl⟩
set_option maxRecDepth 100000 in
theorem findV_nilO (p : Option Addr) (cap : Nat) (w : World) :
    Calls Tryz.prog 75 #[.slice p 0 cap, .func (.func 45) #[] #[]] w fun e w' => (∃ i : Int, e = .returned (.tuple #[.int .i64 i, .int .i64 0])) ∧ w = w' := by
  go_enter Tryz.func75, Tryz.ntmps75
  go_wp2_with fail
  refine wp_loop_rounds 1 ?_
  rw [rounds_succ]
  go_wp2_with fail
  exact bodyPost_ret (v := .tuple #[.int .i64 0, .int .i64 0]) (by simp [results, Tryz.results75, go_sem]) rfl ⟨⟨0, rfl⟩, rfl⟩
theorem eachV_cO {v : Value} {xs : List Int} (w : World) (h : IntsV w v xs) (hs : xs.length ≤ 1000) :
    Calls Tryz.prog 44 #[v, .func (.func 45) #[] #[]] w fun e w' => e = .returned (.int .i64 (valsE xs)) ∧ w = w' := by
  have HF : Hid (Calls Tryz.prog 75 #[v, .func (.func 45) #[] #[]] w fun e w' => (∃ i : Int, e = .returned (.tuple #[.int .i64 i, .int .i64 (valsE xs)])) ∧ w = w') := by
    obtain ⟨⟨p, cap, rfl, hh⟩⟩ := h
    by_cases h0 : 0 < xs.length
    · obtain ⟨b, off, rfl, hc⟩ := hh h0
      exact findV_posO xs _ b off cap w rfl hc hs
    · have : xs = [] := List.eq_nil_of_length_eq_zero (by omega)
      subst this
      exact findV_nilO p cap w
  obtain ⟨⟨p, cap, rfl, _⟩⟩ := h
  go_enter Tryz.func44, Tryz.ntmps44
  go_wp2_with fail
  refine HF.out.mono ?_
  rintro e w4 ⟨⟨i, rfl⟩, rfl⟩
  go_wp2_with fail
  go_ret
  exact ⟨rfl, rfl⟩
set_option maxHeartbeats 1000000 in
set_option maxRecDepth 100000 in
theorem isState_c (s : ByteArray) (w : World) (h : s.toList.isEmpty = false) :
    Calls Tryz.prog 42 #[.string s] w fun e w' => e = .returned (.bool (!(gradeZ s.toList == -1))) ∧ w = w' := by
  have HG : ∀ z, (!(gradeZ s.toList == -1)) = z → Hid ((!(gradeZ s.toList == -1)) = z) := fun z h => h
  rcases grade_of s.toList with h1 | h1 | h1 | h1 | ⟨h0, h1, h2, h3⟩
  · rw [h1] at h; cases h
  · replace HG := HG true (by rw [h1]; rfl)
    go_enter Tryz.func42, Tryz.ntmps42
    go_wp2_with fail
    go_ret
    exact ⟨by rw [HG.out]; rfl, rfl⟩
  · replace HG := HG true (by rw [h1]; rfl)
    go_enter Tryz.func42, Tryz.ntmps42
    go_wp2_with fail
    go_ret
    exact ⟨by rw [HG.out]; rfl, rfl⟩
  · replace HG := HG true (by rw [h1]; rfl)
    go_enter Tryz.func42, Tryz.ntmps42
    go_wp2_with fail
    go_ret
    exact ⟨by rw [HG.out]; rfl, rfl⟩
  · replace HG := HG false (by rw [gradeZ_other h0 h1 h2 h3]; rfl)
    go_enter Tryz.func42, Tryz.ntmps42
    go_wp2_with fail
    go_ret
    exact ⟨by rw [HG.out]; rfl, rfl⟩
/-- the four states in a row -/
def st4 : List ByteArray := [⟨#[]⟩, ⟨#[100, 110, 115]⟩, ⟨#[100, 110, 102]⟩, ⟨#[100, 115, 113]⟩]
theorem st4_find (s : ByteArray) : findS s st4 4 0 = gradeZ s.toList := by
  have e0 : (⟨#[]⟩ : ByteArray).toList = [] := by rw [tl]
  have e1 : (⟨#[100, 110, 115]⟩ : ByteArray).toList = [100, 110, 115] := by rw [tl]
  have e2 : (⟨#[100, 110, 102]⟩ : ByteArray).toList = [100, 110, 102] := by rw [tl]
  have e3 : (⟨#[100, 115, 113]⟩ : ByteArray).toList = [100, 115, 113] := by rw [tl]
  simp only [findS, st4, List.getElem?_cons_zero, List.getElem?_cons_succ, e0, e1, e2, e3]
  unfold gradeZ
  simp only [beq_iff_eq]
  rfl
theorem st4_cells (w : World) (T : TypeId) : ∀ i t, st4[i]? = some t → (w.alloc (.cells #[.string ⟨#[]⟩, .string ⟨#[100, 110, 115]⟩, .string ⟨#[100, 110, 102]⟩, .string ⟨#[100, 115, 113]⟩] T)).cell? ⟨w.heap.size, 0 + i, none⟩ = some (.string t) := by
  intro i t h
  rw [Nat.zero_add]
  rcases i with _ | _ | _ | _ | i
  · simp [st4] at h; subst h; exact cell_new w #[_, _, _, _] T 0 (by simp)
  · simp [st4] at h; subst h; exact cell_new w #[_, _, _, _] T 1 (by simp)
  · simp [st4] at h; subst h; exact cell_new w #[_, _, _, _] T 2 (by simp)
  · simp [st4] at h; subst h; exact cell_new w #[_, _, _, _] T 3 (by simp)
  · simp [st4] at h
set_option maxHeartbeats 1000000 in
set_option maxRecDepth 100000 in
theorem badnessO_c (s : ByteArray) (w : World) :
    Calls Tryz.prog 133 #[.string s] w fun e w' => e = .returned (.int .i64 (gradeZ s.toList)) ∧ Gr w w' := by
  have HI := Lib.hid (indexS_pos st4 4 w.heap.size 0 4 s (w.alloc (.cells #[.string ⟨#[]⟩, .string ⟨#[100, 110, 115]⟩, .string ⟨#[100, 110, 102]⟩, .string ⟨#[100, 115, 113]⟩] 9)) (by simp [st4]) (by omega) (st4_cells w 9))
  rw [st4_find] at HI
  generalize gradeZ s.toList = z at *
  go_enter Tryz.func133, Tryz.ntmps133
  go_wp2_with fail
  refine HI.out.mono ?_
  rintro e w4 ⟨rfl, rfl⟩
  go_wp2_with fail
  go_ret
  exact ⟨rfl, (Gr.refl w).alloc _⟩
def fitO (va : Int) (x : RowR) : Bool := if x.st.toList.isEmpty then decide ((x.xs.length : Int) = va) else decide (x.xs.length = 0)
set_option maxHeartbeats 1000000 in
set_option maxRecDepth 100000 in
theorem fits_c (ro : ByteArray) (va : Int) (st : ByteArray) (v : Value) (x : RowR) (w : World) (hv : IntsV w x.u x.xs) :
    Calls Tryz.prog 43 #[.agg #[.string ro, .int .i64 va, .string st, v], .agg #[.string x.nm, .string x.st, x.u]] w fun e w' => e = .returned (.bool (fitO va x)) ∧ Gr w w' := by
  obtain ⟨⟨pu, cu, hu, _⟩⟩ := id hv
  rw [hu]
  have HFt : ∀ b, fitO va x = b → Hid (fitO va x = b) := fun _ h => h
  cases he : x.st.toList.isEmpty
  · have he2 : ¬ x.st.toList = [] := by intro q; rw [q] at he; cases he
    replace HFt := HFt (decide (x.xs.length = 0)) (by unfold fitO; rw [he]; rfl)
    generalize x.xs.length = n at *
    clear hv hu
    go_enter Tryz.func43, Tryz.ntmps43
    go_wp2_with fail
    go_ret
    exact ⟨by rw [HFt.out]; simp; try (rw [Bool.eq_iff_iff]; simp), ((Gr.refl w).alloc _).alloc _⟩
  · have he2 : x.st.toList = [] := by simpa using he
    replace HFt := HFt (decide ((x.xs.length : Int) = va)) (by unfold fitO; rw [he]; rfl)
    generalize x.xs.length = n at *
    clear hv hu
    go_enter Tryz.func43, Tryz.ntmps43
    go_wp2_with fail
    go_ret
    exact ⟨by rw [HFt.out]; simp; try (rw [Bool.eq_iff_iff]; simp), ((Gr.refl w).alloc _).alloc _⟩
end Go.Proofs.YtjkiidkacpffnaaGreatDoor
namespace Go.Proofs.YtjkiidkacpffnaaGreatDoor
open Go.RowKit Go.Lib
set_option linter.unusedSimpArgs false
set_option linter.unusedVariables false
/-- a result is better than another one -/
def betO (x y : RowR) : Bool := if (x.st.toList == y.st.toList) = true then decide (0 < cmpL x.xs y.xs) else decide (gradeZ x.st.toList < gradeZ y.st.toList)
set_option maxHeartbeats 1000000 in
set_option maxRecDepth 100000 in
theorem isBetter_c (x y : RowR) (w : World) (hx : IntsV w x.u x.xs) (hy : IntsV w y.u y.xs) (hl : x.xs.length ≤ 1000) (hl2 : y.xs.length ≤ 1000) :
    Calls Tryz.prog 72 #[.agg #[.string x.nm, .string x.st, x.u], .agg #[.string y.nm, .string y.st, y.u]] w fun e w' => e = .returned (.bool (betO x y)) ∧ Gr w w' := by
  have HB1 := Lib.hid (fun (W : World) (g : Gr w W) => badnessO_c x.st W)
  have HB2 := Lib.hid (fun (W : World) (g : Gr w W) => badnessO_c y.st W)
  have HR : ∀ b, betO x y = b → Hid (betO x y = b) := fun _ h => h
  obtain ⟨⟨pu, cu, hu, _⟩⟩ := id hx
  obtain ⟨⟨pv, cv, hv, _⟩⟩ := id hy
  have hx2 : IntsV w (.slice pu x.xs.length cu) x.xs := by rw [← hu]; exact hx
  have hy2 : IntsV w (.slice pv y.xs.length cv) y.xs := by rw [← hv]; exact hy
  have HL := Lib.hid (fun (W : World) (g : Gr w W) => lists_c (hx2.gr g) (hy2.gr g) hl hl2)
  rw [hu, hv]
  obtain ⟨W1, hW1, g1, a0, a1, a2⟩ := box3 w (.string x.nm) (.string x.st) (.slice pu x.xs.length cu) 46
  obtain ⟨W2, hW2, g2, b0, b1, b2⟩ := box3 W1 (.string y.nm) (.string y.st) (.slice pv y.xs.length cv) 46
  replace a0 := g2.cell a0
  replace a1 := g2.cell a1
  replace a2 := g2.cell a2
  have g := g1.trans g2
  have hsz : W1.heap.size = w.heap.size + 1 := by rw [← hW1]; simp
  rw [hsz] at b0 b1 b2
  rw [← hW1] at hW2
  have HW := Lib.hid hW2
  clear hx2 hy2 hx hy hl hl2 hW1 hW2 g1 g2 hsz
  cases hs : x.st.toList == y.st.toList
  · replace HR := HR (decide (gradeZ x.st.toList < gradeZ y.st.toList)) (by unfold betO; rw [hs]; rfl)
    have hs2 : ¬ x.st.toList = y.st.toList := by simpa using hs
    clear HL
    generalize gradeZ x.st.toList = z1 at *
    generalize gradeZ y.st.toList = z2 at *
    generalize x.xs.length = n1 at *
    generalize y.xs.length = n2 at *
    generalize betO x y = bb at *
    clear hu hv
    go_enter Tryz.func72, Tryz.ntmps72
    go_wp2_with fail
    rw [HW.out]
    clear HW
    generalize w.heap.size + 1 = Cx at *
    generalize w.heap.size = Bx at *
    go_wp2_with fail
    have gd := (Gr.refl W2).drew
    replace a0 := gd.cell a0
    replace a1 := gd.cell a1
    replace a2 := gd.cell a2
    replace b0 := gd.cell b0
    replace b1 := gd.cell b1
    replace b2 := gd.cell b2
    replace g := g.trans gd
    clear gd
    refine wp_region_held_drew (S := (fun w' => w'.cell? ⟨Bx, 0, none⟩ = some (.string x.nm) ∧ w'.cell? ⟨Bx, 1, none⟩ = some (.string x.st) ∧ w'.cell? ⟨Bx, 2, none⟩ = some (.slice pu n1 cu) ∧ w'.cell? ⟨Cx, 0, none⟩ = some (.string y.nm) ∧ w'.cell? ⟨Cx, 1, none⟩ = some (.string y.st) ∧ w'.cell? ⟨Cx, 2, none⟩ = some (.slice pv n2 cv))) (by kernel_rfl) ⟨a0, a1, a2, b0, b1, b2⟩ (fun hHeld => ?_)
    generalize W2.drew = V at *
    refine wpAnyH_take (i := 0) (v := (.pointer (some ⟨Bx, 1, none⟩))) (op_at rfl) (by kernel_rfl) (by kernel_rfl) (by kernel_rfl) (fun _ _ _ h => h) (Or.inl ⟨rfl, fun w hSw => ?_⟩) (by assumption) ?_
    · (try dsimp only at hSw); go_simp; try with_reducible rfl
    (try simp only [Act.put, List.setIfInBounds_toArray, List.set_cons_zero, List.set_cons_succ])
    refine wpAnyH_take (i := 1) (v := (.string x.st)) (op_at rfl) (by kernel_rfl) (by kernel_rfl) (by kernel_rfl) (fun _ _ _ h => h) (Or.inl ⟨rfl, fun w hSw => ?_⟩) (by assumption) ?_
    · (try dsimp only at hSw); go_simp; try with_reducible rfl
    (try simp only [Act.put, List.setIfInBounds_toArray, List.set_cons_zero, List.set_cons_succ])
    refine wpAnyH_take (i := 3) (v := (.pointer (some ⟨Cx, 1, none⟩))) (op_at rfl) (by kernel_rfl) (by kernel_rfl) (by kernel_rfl) (fun _ _ _ h => h) (Or.inl ⟨rfl, fun w hSw => ?_⟩) (by assumption) ?_
    · (try dsimp only at hSw); go_simp; try with_reducible rfl
    (try simp only [Act.put, List.setIfInBounds_toArray, List.set_cons_zero, List.set_cons_succ])
    refine wpAnyH_take (i := 4) (v := (.string y.st)) (op_at rfl) (by kernel_rfl) (by kernel_rfl) (by kernel_rfl) (fun _ _ _ h => h) (Or.inl ⟨rfl, fun w hSw => ?_⟩) (by assumption) ?_
    · (try dsimp only at hSw); go_simp; try with_reducible rfl
    (try simp only [Act.put, List.setIfInBounds_toArray, List.set_cons_zero, List.set_cons_succ])
    refine wpAnyH_ready (rs := [2]) (by kernel_rfl) (by simp) (AllReadyH.cons (op_at rfl) (fun K hK => ?_) AllReadyH.nil)
    go_simp
    (refine (HB1.out _ g).mono ?_; rintro e W3 ⟨rfl, hg⟩; replace a0 := hg.cell a0; replace a1 := hg.cell a1; replace a2 := hg.cell a2; replace b0 := hg.cell b0; replace b1 := hg.cell b1; replace b2 := hg.cell b2; replace g := g.trans hg; clear hg)
    go_wp2_with fail
    refine hK.out _ _ ⟨a0, a1, a2, b0, b1, b2⟩ (fun hHeld => ?_)
    clear hK K
    (try simp only [Act.put, List.setIfInBounds_toArray, List.set_cons_zero, List.set_cons_succ])
    refine wpAnyH_ready (rs := [5]) (by kernel_rfl) (by simp) (AllReadyH.cons (op_at rfl) (fun K hK => ?_) AllReadyH.nil)
    go_simp
    (refine (HB2.out _ g).mono ?_; rintro e W4 ⟨rfl, hg⟩; replace a0 := hg.cell a0; replace a1 := hg.cell a1; replace a2 := hg.cell a2; replace b0 := hg.cell b0; replace b1 := hg.cell b1; replace b2 := hg.cell b2; replace g := g.trans hg; clear hg)
    go_wp2_with fail
    refine hK.out _ _ ⟨a0, a1, a2, b0, b1, b2⟩ (fun hHeld => ?_)
    clear hK K
    (try simp only [Act.put, List.setIfInBounds_toArray, List.set_cons_zero, List.set_cons_succ])
    refine wpAnyH_take (i := 6) (v := (.bool (decide (z1 < z2)))) (op_at rfl) (by kernel_rfl) (by kernel_rfl) (by kernel_rfl) (fun _ _ _ h => h) (Or.inl ⟨rfl, fun w hSw => ?_⟩) (by assumption) ?_
    · (try dsimp only at hSw); go_simp; try with_reducible rfl
    (try simp only [Act.put, List.setIfInBounds_toArray, List.set_cons_zero, List.set_cons_succ])
    refine wpAnyH_take (i := 7) (v := (.bool (decide (z1 < z2)))) (op_at rfl) (by kernel_rfl) (by kernel_rfl) (by kernel_rfl) (fun _ _ _ h => h) (Or.inl ⟨rfl, fun w hSw => ?_⟩) (by assumption) ?_
    · (try dsimp only at hSw); go_simp; try with_reducible rfl
    (try simp only [Act.put, List.setIfInBounds_toArray, List.set_cons_zero, List.set_cons_succ])
    refine wpAnyH_done (by kernel_rfl) ?_ _
    go_wp2_with fail
    go_ret
    exact ⟨by rw [HR.out]; try rfl, g⟩
  · replace HR := HR (decide (0 < cmpL x.xs y.xs)) (by unfold betO; rw [hs]; rfl)
    have hs2 : x.st.toList = y.st.toList := by simpa using hs
    clear HB1 HB2
    generalize cmpL x.xs y.xs = zc at *
    generalize x.xs.length = n1 at *
    generalize y.xs.length = n2 at *
    generalize betO x y = bb at *
    clear hu hv
    go_enter Tryz.func72, Tryz.ntmps72
    go_wp2_with fail
    rw [HW.out]
    clear HW
    generalize w.heap.size + 1 = Cx at *
    generalize w.heap.size = Bx at *
    go_wp2_with fail
    refine (HL.out _ g).mono ?_
    rintro e w4 ⟨rfl, hg⟩
    go_wp2_with fail
    go_ret
    exact ⟨by rw [HR.out]; try rfl, g.trans hg⟩
end Go.Proofs.YtjkiidkacpffnaaGreatDoor
namespace Go.Proofs.YtjkiidkacpffnaaGreatDoor
open Go.RowKit Go.Lib
set_option linter.unusedSimpArgs false
set_option linter.unusedVariables false
/-- the slice v reads as the integers xs -/
structure ReadsI (w : World) (v : Value) (xs : List Int) : Prop where
  mk' ::
  out : ∃ p cap, v = .slice p xs.length cap ∧ (0 < xs.length → ∃ g, p = some ⟨g, 0, none⟩ ∧ ∀ i x, xs[i]? = some x → w.cell? ⟨g, i, none⟩ = some (.int .i64 x))
theorem ReadsI.gr {w w' : World} {v : Value} {xs : List Int} (h : ReadsI w v xs) (k : Gr w w') : ReadsI w' v xs := by
  obtain ⟨⟨p, cap, rfl, hh⟩⟩ := h
  refine ⟨p, cap, rfl, fun h0 => ?_⟩
  obtain ⟨g, h1, h2⟩ := hh h0
  exact ⟨g, h1, fun i x hx => k.cell (h2 i x hx)⟩
end Go.Proofs.YtjkiidkacpffnaaGreatDoor
namespace Go.Proofs.YtjkiidkacpffnaaGreatDoor
open Go.RowKit Go.Lib
set_option linter.unusedSimpArgs false
set_option linter.unusedVariables false
theorem own_lower {w : World} {a b s n : Nat} {T : TypeId} {v : Value} {l : List Value} (h : w.ownsRow b T s v n l) (hab : a ≤ b) : w.ownsRow a T s v n l := by
  refine ⟨h.1, ?_⟩
  rcases h.2 with h | ⟨g, cap, cur, e, hB, r⟩
  · exact .inl h
  · exact .inr ⟨g, cap, cur, e, Nat.le_trans hab hB, r⟩
theorem ints_takeO {l : List Int} {k : Nat} {x : Int} (h : l[k]? = some x) : ints (l.take (k + 1)) = ints (l.take k) ++ [.int .i64 x] := by
  rw [List.take_add_one, h]; simp [ints]
/-- how many of the first are better -/
def cntO (xs : List RowR) (x : RowR) : Nat → Int
  | 0 => 0
  | q + 1 => cntO xs x q + (match xs[q]? with | some y => if betO y x then 1 else 0 | none => 0)
def rankO (xs : List RowR) (x : RowR) : Int := 1 + cntO xs x xs.length
def ranksO (xs : List RowR) : List Int := xs.map (rankO xs)
theorem cntO_step {xs : List RowR} {x y : RowR} {q : Nat} (h : xs[q]? = some y) : cntO xs x (q + 1) = if betO y x then cntO xs x q + 1 else cntO xs x q := by
  simp only [cntO, h]
  split <;> simp
theorem cntO_le (xs : List RowR) (x : RowR) : ∀ q, 0 ≤ cntO xs x q ∧ cntO xs x q ≤ q
  | 0 => by simp [cntO]
  | q + 1 => by
    have := cntO_le xs x q
    simp only [cntO]
    split
    · split <;> omega
    · omega
theorem ranksO_at {xs : List RowR} {k : Nat} {x : RowR} (h : xs[k]? = some x) : (ranksO xs)[k]? = some (rankO xs x) := by
  unfold ranksO; rw [List.getElem?_map, h]; rfl
set_option maxHeartbeats 4000000 in
set_option maxRecDepth 100000 in
theorem ranksO_pos (ro : ByteArray) (va : Int) (st : ByteArray) (xs : List RowR) (n b off cap : Nat) (w : World) (hn : xs.length = n) (h1 : n ≤ 160) (hc : ∀ i x, xs[i]? = some x → RowAt w b (off + i * 3) x) :
    Calls Tryz.prog 34 #[.agg #[.string ro, .int .i64 va, .string st, .slice (some ⟨b, off, none⟩) n cap]] w fun e w' => ∃ v, e = .returned v ∧ w'.ownsRow w.heap.size 3 1 v n (ints (ranksO xs)) ∧ Gr w w' := by
  obtain ⟨i1, hj, hy0, hy1, hy2⟩ := info_parts info3
  have HCC := Lib.hid hc
  have hrl : (ranksO xs).length = n := by simp [ranksO, hn]
  have HRow := Lib.hid (fun k (h : k < n) => (show ∃ x, xs[k]? = some x ∧ (ranksO xs)[k]? = some (rankO xs x) from by
    obtain ⟨x, hx⟩ : ∃ x, xs[k]? = some x := ⟨xs[k]'(by omega), List.getElem?_eq_getElem _⟩
    exact ⟨x, hx, ranksO_at hx⟩))
  have HFin := Lib.hid (fun x => (show 1 + cntO xs x n = rankO xs x from by unfold rankO; rw [hn]))
  obtain ⟨W, hW, gW, s0, s1, s2, s3⟩ := box4 w (.string ro) (.int .i64 va) (.string st) (.slice (some ⟨b, off, none⟩) n cap) 24
  have HW := Lib.hid hW
  clear hW hc hn s0 s1 s2
  go_enter Tryz.func34, Tryz.ntmps34
  go_wp2_with fail
  rw [HW.out]
  clear HW
  have hBW : w.heap.size ≤ W.heap.size := gW.size
  go_wp2_with fail
  go_loopw [3, 12] (fun v i wr => ∃ k : Nat, k ≤ n ∧ i = .int .i64 k ∧ wr.ownsRow W.heap.size 3 1 v k (ints ((ranksO xs).take k)) ∧ Gr W wr) (fun _ i _ => n - (intOf i).toNat)
  case atStart => exact ⟨0, Nat.zero_le _, rfl, World.ownsRow_nil _ _ _ _, Gr.refl _⟩
  case round =>
    obtain ⟨k, hk, rfl, hown, hnx⟩ := hrel
    have hsize := hnx.size
    by_cases hkN : k < n
    · obtain ⟨x, hx, hr1⟩ := HRow.out k hkN
      obtain ⟨c0, c1, c2, hxv, hxl⟩ := (HCC.out k x hx).gr (gW.trans hnx)
      obtain ⟨⟨pu, cu, hu, _⟩⟩ := id hxv
      rw [hu] at c2
      have a3 := hnx.cell s3
      have hk2 : (k : Int) < n := by omega
      have HOW := Lib.hid (fun W (g : Gr wr W) => own_gr hown g)
      have HIT := Lib.hid (ints_takeO hr1)
      have HLk := Lib.hid (show (ints ((ranksO xs).take k)).length = k from by simp [ints, hrl]; omega)
      obtain ⟨W5, hW5, g5, x0, x1, x2⟩ := box3 wr (.string x.nm) (.string x.st) (.slice pu x.xs.length cu) 46
      have HW5 := Lib.hid hW5
      replace a3 := g5.cell a3
      have a3w := a3
      rw [← hW5] at a3w
      have HX := Lib.hid (show IntsV W5 (.slice pu x.xs.length cu) x.xs from by rw [← hu]; exact hxv.gr g5)
      have HXu := Lib.hid hu
      clear hown hW5 hx hr1 hu hxv
      go_wp2_with fail
      rw [HW5.out]
      clear HW5 a3w
      have hsz5 := g5.size
      generalize wr.heap.size = B5 at *
      generalize hxn : x.xs.length = xn at *
      go_loopw [6, 19] (fun c iq wi => ∃ q : Nat, q ≤ n ∧ iq = .int .i64 q ∧ c = .int .i64 (1 + cntO xs x q) ∧ Gr W5 wi) (fun _ iq _ => n - (intOf iq).toNat)
      case atStart => exact ⟨0, Nat.zero_le _, rfl, rfl, Gr.refl _⟩
      case round =>
        obtain ⟨q, hq, rfl, rfl, hnq⟩ := hrel
        by_cases hqN : q < n
        · obtain ⟨y, hy, _⟩ := HRow.out q hqN
          obtain ⟨y0, y1, y2, hyv, hyl⟩ := (HCC.out q y hy).gr (gW.trans (hnx.trans (g5.trans hnq)))
          obtain ⟨⟨pv, cv, hv, _⟩⟩ := id hyv
          rw [hv] at y2
          have g8 := (Gr.refl wr).alloc (.cells #[.string y.nm, .string y.st, .slice pv y.xs.length cv] 46)
          have hxl2 : x.xs.length ≤ 1000 := by rw [hxn]; exact hxl
          have HB := Lib.hid (isBetter_c y x (wr.alloc (.cells #[.string y.nm, .string y.st, .slice pv y.xs.length cv] 46)) (hyv.gr g8) (by rw [HXu.out]; exact HX.out.gr (hnq.trans g8)) hyl hxl2)
          rw [hv, HXu.out] at HB
          replace x0 := g8.cell (hnq.cell x0)
          replace x1 := g8.cell (hnq.cell x1)
          replace x2 := g8.cell (hnq.cell x2)
          have HCN := Lib.hid (cntO_step (x := x) hy)
          have hcb := cntO_le xs x q
          have hq2 : (q : Int) < n := by omega
          have hq1 : (q : Int) ≤ 160 := by omega
          have HNQ := Lib.hid hnq
          clear hy hnq HRow HCC HOW HIT HLk hyv hyl hv HX HXu
          generalize cntO xs x q = cq at *
          generalize y.xs.length = yn at *
          cases hbt : betO y x
          · have hd : betO y x = false := hbt
            rw [hd] at HB
            have HCN2 : Hid (cntO xs x (q + 1) = cq) := by unfold Hid; rw [HCN.out, hd]; rfl
            clear HCN hbt hd
            go_wp2_with (refine HB.out.mono ?_; rintro e w4 ⟨rfl, hg⟩)
            go_roundw
            case rel => exact ⟨q + 1, by omega, by go_num, by rw [HCN2.out]; try rfl, HNQ.out.trans (g8.trans hg)⟩
            case measure => simp [intOf]; omega
          · have hd : betO y x = true := hbt
            rw [hd] at HB
            have HCN2 : Hid (cntO xs x (q + 1) = cq + 1) := by unfold Hid; rw [HCN.out, hd]; rfl
            clear HCN hbt hd
            go_wp2_with (refine HB.out.mono ?_; rintro e w4 ⟨rfl, hg⟩)
            go_roundw
            case rel => exact ⟨q + 1, by omega, by go_num, by rw [HCN2.out]; try (congr 1; omega), HNQ.out.trans (g8.trans hg)⟩
            case measure => simp [intOf]; omega
        · obtain rfl : q = n := by omega
          have hown := HOW.out _ (g5.trans hnq)
          rw [HFin.out]
          have hsz := hnq.size
          have hlk := HLk.out
          generalize rankO xs x = rk at *
          clear hxn HX HXu
          go_wp2_with (first
            | (at_builtin; refine wpList_append_own _ rfl _ _ 34 rfl W.heap.size 3 i1 (.int .i64 0) 1 8 Tryz.underlying34 hj hy0 hy1 hy2 rfl (by decide) _ _ _ rfl (hown.alloc _) ⟨wr.heap.size, 0, none⟩ 1 1 [.int .i64 rk] rfl rfl (cell_one_new _ _ _) (by intro u hu; simp at hu; subst hu; rfl) (by unfold maxLen; omega) (by omega) (by simp; omega) ?_; intro v1 w1 hown1 hgrow1 hnil1))
          go_roundw
          case rel => exact ⟨k + 1, by omega, by go_num, by rw [HIT.out]; exact hown1, Below.grown ((hnx.trans (g5.trans hnq)).alloc _) hgrow1 (by simp; omega) (fun j hj => (hown.lt j hj).1)⟩
          case measure => simp [intOf]; omega
    · obtain rfl : k = n := by omega
      rw [List.take_of_length_le (by omega)] at hown
      go_wp2_with fail
      go_ret
      exact ⟨_, rfl, own_lower hown hBW, gW.trans hnx⟩
theorem ranksO_nil (ro : ByteArray) (va : Int) (st : ByteArray) (p : Option Addr) (cap : Nat) (w : World) :
    Calls Tryz.prog 34 #[.agg #[.string ro, .int .i64 va, .string st, .slice p 0 cap]] w fun e w' => e = .returned (.slice none 0 0) ∧ Gr w w' := by
  go_enter Tryz.func34, Tryz.ntmps34
  go_wp2_with fail
  refine wp_loop_rounds 2 ?_
  rw [rounds_succ]
  go_wp2_with fail
  go_ret
  exact ⟨rfl, (Gr.refl w).alloc _⟩
end Go.Proofs.YtjkiidkacpffnaaGreatDoor
