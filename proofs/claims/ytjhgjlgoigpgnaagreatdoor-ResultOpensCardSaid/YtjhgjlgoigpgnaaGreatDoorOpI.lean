/- Open values: the program's CheckOpen, walked. -/
import Derived.Test.YtjhgjlgoigpgnaaGreatDoorOpH
namespace Go.Proofs.YtjhgjlgoigpgnaaGreatDoor
open Go.RowKit Go.Lib
set_option linter.unusedSimpArgs false
set_option linter.unusedVariables false
set_option maxHeartbeats 1000000 in
set_option maxRecDepth 100000 in
theorem findO_pos (xs : List OpR) (n b off cap L : Nat) (w : World) (hn : xs.length = n) (h1 : n ≤ 1000) (hcap : n ≤ cap) (hmx : cap ≤ maxLen) (hc : ∀ i x, xs[i]? = some x → OpAt w b (off + i * 3) x) (hL : w.cell? ⟨L, 0, none⟩ = some (.slice (some ⟨b, off, none⟩) n cap)) :
    Calls Tryz.prog 104 #[.slice (some ⟨b, off, none⟩) n cap, .func (.func 48) #[] #[.pointer (some ⟨L, 0, none⟩)]] w fun e w' => (∃ i : Int, e = .returned (.tuple #[.int .i64 i, .int .i64 (errFrom xs (xs.length - 0) 0)])) ∧ Gr w w' := by
  have HC := Lib.hid hc
  have HN := Lib.hid hn
  have HO := Lib.hid (fun (i : Nat) (x : OpR) (W : World) (hi : i ≤ n) (hg : Gr w W) => one_open xs i n b off cap L x W hn h1 hi hcap hmx (fun i x hx => (hc i x hx).gr hg) (hg.cell hL))
  clear hc hL hn
  go_enter Tryz.func104, Tryz.ntmps104
  go_wp2_with fail
  go_loopg [11] n (fun gk s11 wr => ∃ i : Nat, s11 = .int .i64 i ∧ gk + i = n ∧ Gr w wr ∧ Hid (errFrom xs (xs.length - i) i = errFrom xs (xs.length - 0) 0))
  case atStart => exact ⟨0, rfl, by omega, Gr.refl _, rfl⟩
  case round =>
    obtain ⟨i, rfl, hi, hg, HF⟩ := hrel
    by_cases hlt : i < n
    · obtain ⟨x, hx⟩ : ∃ x, xs[i]? = some x := ⟨xs[i]'(by have := HN.out; omega), List.getElem?_eq_getElem _⟩
      obtain ⟨c0, c1, c2⟩ := (HC.out i x hx).gr hg
      have hf := errFrom_step hx
      have hi2 : (i : Int) < n := by omega
      have hT := fun W hg2 => HO.out i x W (by omega) hg2
      unfold opV at hT
      clear hx
      obtain ⟨W, hW, g, a0, a1, a2⟩ := box3 wr (.string x.nm) (.int .i64 x.lo) (.int .i64 x.hi) 75
      have gW := hg.trans g
      have HW := Lib.hid hW
      by_cases h0 : errAt xs i x = 0
      · rw [h0] at hT hf
        rw [if_pos rfl] at hf
        have HT := Lib.hid hT
        have HF2 := Lib.hid hf
        clear hT hf h0 hW
        go_wp2_with fail
        rw [HW.out]
        refine (HT.out _ gW).mono ?_
        rintro e w4 ⟨rfl, hg2⟩
        go_wp2_with fail
        go_roundg (gk - 1)
        case measure => omega
        case rel => exact ⟨i + 1, by go_num, by omega, gW.trans hg2, by unfold Hid; rw [← HF2.out, HF.out]⟩
      · rw [if_neg h0] at hf
        generalize errAt xs i x = z at *
        have q1 : (z == 0) = false := by simpa using h0
        have q2 : (z != 0) = true := by simpa [bne] using q1
        have HT := Lib.hid hT
        have HF2 := Lib.hid hf
        clear hT hf hW
        go_wp2_with fail
        rw [HW.out]
        refine (HT.out _ gW).mono ?_
        rintro e w4 ⟨rfl, hg2⟩
        go_wp2_with fail
        exact bodyPost_ret (v := .tuple #[.int .i64 i, .int .i64 z]) (by simp [results, Tryz.results104, go_sem]) rfl ⟨⟨i, by rw [← HF.out, HF2.out]⟩, gW.trans hg2⟩
    · have HE2 := Lib.hid (errFrom_end (xs := xs) (i := i) (by have := HN.out; omega))
      have hi2 : (n : Int) ≤ i := by omega
      go_wp2_with fail
      exact bodyPost_ret (v := .tuple #[.int .i64 0, .int .i64 0]) (by simp [results, Tryz.results104, go_sem]) rfl ⟨⟨0, by rw [← HF.out, HE2.out]⟩, hg⟩
theorem eachO_pos (xs : List OpR) (n b off cap L : Nat) (w : World) (hn : xs.length = n) (h1 : n ≤ 1000) (hcap : n ≤ cap) (hmx : cap ≤ maxLen) (hc : ∀ i x, xs[i]? = some x → OpAt w b (off + i * 3) x) (hL : w.cell? ⟨L, 0, none⟩ = some (.slice (some ⟨b, off, none⟩) n cap)) :
    Calls Tryz.prog 47 #[.slice (some ⟨b, off, none⟩) n cap, .func (.func 48) #[] #[.pointer (some ⟨L, 0, none⟩)]] w fun e w' => e = .returned (.int .i64 (errFrom xs (xs.length - 0) 0)) ∧ Gr w w' := by
  have HF := Lib.hid (findO_pos xs n b off cap L w hn h1 hcap hmx hc hL)
  have HE : Hid (errFrom xs (xs.length - 0) 0 = errFrom xs (n - 0) 0) := by unfold Hid; rw [hn]
  rw [HE.out] at HF ⊢
  generalize errFrom xs (n - 0) 0 = z at *
  clear hc hL hn HE
  go_enter Tryz.func47, Tryz.ntmps47
  go_wp2_with fail
  refine HF.out.mono ?_
  rintro e w4 ⟨⟨i, rfl⟩, hg⟩
  go_wp2_with fail
  go_ret
  exact ⟨rfl, hg⟩
theorem box1 (w : World) (a0 : Value) (T : Nat) : ∃ W, w.alloc (.cells #[a0] T) = W ∧ Gr w W ∧ W.cell? ⟨w.heap.size, 0, none⟩ = some a0 :=
  ⟨_, rfl, (Gr.refl w).alloc _, cell_new w #[a0] T 0 (by simp)⟩
set_option maxHeartbeats 1000000 in
set_option maxRecDepth 100000 in
theorem checkOpen_c {v : Value} {xs : List OpR} {w : World} (h : OpsV w v xs) :
    Calls Tryz.prog 15 #[v] w fun e w' => e = .returned (.int .i64 (openE xs)) ∧ Gr w w' := by
  obtain ⟨⟨p, cap, rfl, hcap, hh⟩⟩ := h
  by_cases h0 : 0 < xs.length
  · obtain ⟨b, off, rfl, hc⟩ := hh h0
    obtain ⟨W, hW, g, a0⟩ := box1 w (.slice (some ⟨b, off, none⟩) xs.length cap) 38
    have hz1 : ((xs.length : Int) == 0) = false := beq_eq_false_iff_ne.2 (by omega)
    by_cases h1 : xs.length ≤ 160
    · have HE : Hid (openE xs = errFrom xs (xs.length - 0) 0) := by unfold Hid openE; rw [if_neg (show ¬ xs.length = 0 by omega), if_neg (show ¬ 160 < xs.length by omega)]
      have hz2 : decide ((160 : Int) < xs.length) = false := decide_eq_false (by omega)
      have HT := Lib.hid (eachO_pos xs _ b off cap w.heap.size W rfl (by omega) hcap.1 hcap.2 (fun i x hx => (hc i x hx).gr g) a0)
      have HW := Lib.hid hW
      clear hh hc hW
      go_enter Tryz.func15, Tryz.ntmps15
      go_wp2_with fail
      rw [HW.out]
      refine HT.out.mono ?_
      rintro e w4 ⟨rfl, hg⟩
      go_wp2_with fail
      go_ret
      exact ⟨by rw [HE.out]; rfl, g.trans hg⟩
    · have HE : Hid (openE xs = 5) := by unfold Hid openE; rw [if_neg (show ¬ xs.length = 0 by omega), if_pos (show 160 < xs.length by omega)]
      have hz2 : decide ((160 : Int) < xs.length) = true := decide_eq_true (by omega)
      have HW := Lib.hid hW
      clear hh hc hW
      go_enter Tryz.func15, Tryz.ntmps15
      go_wp2_with fail
      rw [HW.out]
      go_ret
      exact ⟨by rw [HE.out]; rfl, g⟩
  · have hx : xs = [] := List.eq_nil_of_length_eq_zero (by omega)
    subst hx
    have HE : Hid (openE ([] : List OpR) = 12) := rfl
    go_enter Tryz.func15, Tryz.ntmps15
    go_wp2_with fail
    go_ret
    exact ⟨by rw [HE.out]; rfl, (Gr.refl _).alloc _⟩
end Go.Proofs.YtjhgjlgoigpgnaaGreatDoor
