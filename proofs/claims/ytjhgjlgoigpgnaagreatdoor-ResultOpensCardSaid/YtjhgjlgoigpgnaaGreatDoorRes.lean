/- A result by itself: result.checkResult, the reference's CheckResult. -/
import Derived.Test.YtjhgjlgoigpgnaaGreatDoorGrade
import Derived.Test.YtjhgjlgoigpgnaaGreatDoorNamesB
namespace Go.Proofs.YtjhgjlgoigpgnaaGreatDoor
open Go.RowKit Go.Lib
set_option linter.unusedSimpArgs false
theorem one_c (i n : Int) (w : World) :
    Calls Tryz.prog 101 #[.int .i64 i, .int .i64 n] w fun e w' => e = .returned (.int .i64 (outE n (-999999999) 999999999)) ∧ w = w' := by
  have HR := Lib.hid (fun W => range_c n (-999999999) 999999999 W)
  go_enter Tryz.func101, Tryz.ntmps101
  go_wp2_with fail
  refine (HR.out _).mono ?_
  rintro e w4 ⟨rfl, rfl⟩
  go_wp2_with fail
  go_ret
  exact ⟨rfl, rfl⟩
/-- the error of values -/
def valsE (xs : List Int) : Int := firstE (xs.map fun n => outE n (-999999999) 999999999)
theorem valsE_drop {xs : List Int} {k : Nat} {x : Int} (h : xs[k]? = some x) : valsE (xs.drop k) = if outE x (-999999999) 999999999 = 0 then valsE (xs.drop (k + 1)) else outE x (-999999999) 999999999 := by
  unfold valsE
  rw [List.map_drop, List.map_drop]
  exact firstE_drop (by rw [List.getElem?_map, h]; rfl)
set_option maxHeartbeats 1000000 in
set_option maxRecDepth 100000 in
theorem findV_pos (xs : List Int) (n b off cap : Nat) (w : World) (hn : xs.length = n) (hc : ∀ i x, xs[i]? = some x → w.cell? ⟨b, off + i, none⟩ = some (.int .i64 x)) (hs : n ≤ 1000) :
    Calls Tryz.prog 109 #[.slice (some ⟨b, off, none⟩) n cap, .func (.func 101) #[] #[]] w fun e w' => (∃ i : Int, e = .returned (.tuple #[.int .i64 i, .int .i64 (valsE xs)])) ∧ w = w' := by
  have HN := Lib.hid hn
  have HC := Lib.hid hc
  clear hc
  go_enter Tryz.func109, Tryz.ntmps109
  go_wp2_with fail
  go_loopg [11] n (fun g s11 wr => ∃ k : Nat, s11 = .int .i64 k ∧ g + k = n ∧ wr = w ∧ Hid (valsE (xs.drop k) = valsE xs))
  case atStart => exact ⟨0, rfl, by omega, rfl, by simp [Hid]⟩
  case round =>
    obtain ⟨k, rfl, hk, rfl, HF⟩ := hrel
    by_cases hlt : k < n
    · obtain ⟨x, hx⟩ : ∃ x, xs[k]? = some x := ⟨xs[k]'(by omega), List.getElem?_eq_getElem (by omega)⟩
      have hcell := HC.out k x hx
      have hf := valsE_drop hx
      have HT : ∀ i W, _ := fun i W => one_c i x W
      clear hx
      rcases outE_or x (-999999999) 999999999 with h0 | h0
      · rw [h0] at HT hf
        rw [if_pos rfl] at hf
        replace HT := Lib.hid HT
        have HF2 := Lib.hid hf
        clear hf h0
        go_wp2_with (refine (HT.out _ _).mono ?_; rintro e w4 ⟨rfl, rfl⟩)
        go_roundg (gk - 1)
        case measure => omega
        case rel => exact ⟨k + 1, by go_num, by omega, rfl, by unfold Hid; rw [← HF2.out, HF.out]⟩
      · rw [h0] at HT hf
        rw [if_neg (by decide)] at hf
        replace HT := Lib.hid HT
        have HF2 := Lib.hid hf
        clear hf h0
        go_wp2_with (refine (HT.out _ _).mono ?_; rintro e w4 ⟨rfl, rfl⟩)
        exact bodyPost_ret (v := .tuple #[.int .i64 k, .int .i64 3]) (by simp [results, Tryz.results109, go_sem]) rfl ⟨⟨k, by rw [← HF.out, HF2.out]⟩, rfl⟩
    · have : xs.drop k = [] := List.drop_of_length_le (by omega)
      have HE : Hid (valsE xs = 0) := by unfold Hid; rw [← HF.out, this]; rfl
      clear this
      go_wp2_with fail
      exact bodyPost_ret (v := .tuple #[.int .i64 0, .int .i64 0]) (by simp [results, Tryz.results109, go_sem]) rfl ⟨⟨0, by rw [HE.out]⟩, rfl⟩
set_option maxRecDepth 100000 in
theorem findV_nil (p : Option Addr) (cap : Nat) (w : World) :
    Calls Tryz.prog 109 #[.slice p 0 cap, .func (.func 101) #[] #[]] w fun e w' => (∃ i : Int, e = .returned (.tuple #[.int .i64 i, .int .i64 0])) ∧ w = w' := by
  go_enter Tryz.func109, Tryz.ntmps109
  go_wp2_with fail
  refine wp_loop_rounds 1 ?_
  rw [rounds_succ]
  go_wp2_with fail
  exact bodyPost_ret (v := .tuple #[.int .i64 0, .int .i64 0]) (by simp [results, Tryz.results109, go_sem]) rfl ⟨⟨0, rfl⟩, rfl⟩
theorem eachV_c {v : Value} {xs : List Int} (w : World) (h : IntsV w v xs) (hs : xs.length ≤ 1000) :
    Calls Tryz.prog 57 #[v, .func (.func 101) #[] #[]] w fun e w' => e = .returned (.int .i64 (valsE xs)) ∧ w = w' := by
  have HF : Hid (Calls Tryz.prog 109 #[v, .func (.func 101) #[] #[]] w fun e w' => (∃ i : Int, e = .returned (.tuple #[.int .i64 i, .int .i64 (valsE xs)])) ∧ w = w') := by
    obtain ⟨⟨p, cap, rfl, hh⟩⟩ := h
    by_cases h0 : 0 < xs.length
    · obtain ⟨b, off, rfl, hc⟩ := hh h0
      exact findV_pos xs _ b off cap w rfl hc hs
    · have : xs = [] := List.eq_nil_of_length_eq_zero (by omega)
      subst this
      exact findV_nil p cap w
  obtain ⟨⟨p, cap, rfl, _⟩⟩ := h
  go_enter Tryz.func57, Tryz.ntmps57
  go_wp2_with fail
  refine HF.out.mono ?_
  rintro e w4 ⟨⟨i, rfl⟩, rfl⟩
  go_wp2_with fail
  go_ret
  exact ⟨rfl, rfl⟩
end Go.Proofs.YtjhgjlgoigpgnaaGreatDoor
