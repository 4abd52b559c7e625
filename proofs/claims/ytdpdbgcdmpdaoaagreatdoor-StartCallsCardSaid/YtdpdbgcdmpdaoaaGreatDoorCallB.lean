/- start.checkStarts. -/
import Derived.Test.YtdpdbgcdmpdaoaaGreatDoorCallA
namespace Go.Proofs.YtdpdbgcdmpdaoaaGreatDoor
open Go.RowKit Go.Lib
set_option maxHeartbeats 1000000 in
set_option maxRecDepth 100000 in
theorem find1_c (x : Int) (b cap : Nat) (w : World) (hx : w.cell? ⟨b, 0, none⟩ = some (.int .i64 x)) :
    Calls Tryz.prog 114 #[.slice (some ⟨b, 0, none⟩) 1 cap, .func (.func 72) #[] #[]] w fun e w' => e = .returned (.tuple #[.int .i64 0, .int .i64 (outE x 0 86399999)]) ∧ w = w' := by
  have HT : ∀ i W, _ := fun i W => time1_c i x W
  rcases outE_or x 0 86399999 with h1 | h1
  all_goals
    rw [h1] at HT ⊢
    replace HT := Lib.hid HT
    clear h1
    go_enter Tryz.func114, Tryz.ntmps114
    go_wp2_with fail
    refine wp_loop_rounds 2 ?_
    rw [rounds_succ]
    go_wp2_with fail
    refine (HT.out _ _).mono ?_
    rintro e w4 ⟨rfl, rfl⟩
    go_wp2_with fail
  · rw [rounds_succ]
    go_wp2_with fail
    exact bodyPost_ret (v := .tuple #[.int .i64 0, .int .i64 0]) (by simp [results, Tryz.results114, go_sem]) rfl ⟨rfl, rfl⟩
  · exact bodyPost_ret (v := .tuple #[.int .i64 0, .int .i64 3]) (by simp [results, Tryz.results114, go_sem]) rfl ⟨rfl, rfl⟩
set_option maxHeartbeats 1000000 in
set_option maxRecDepth 100000 in
theorem find2_c (x y : Int) (b cap : Nat) (w : World) (hx : w.cell? ⟨b, 0, none⟩ = some (.int .i64 x)) (hy : w.cell? ⟨b, 1, none⟩ = some (.int .i64 y)) :
    Calls Tryz.prog 114 #[.slice (some ⟨b, 0, none⟩) 2 cap, .func (.func 72) #[] #[]] w fun e w' => (∃ i : Int, e = .returned (.tuple #[.int .i64 i, .int .i64 (fst2 (outE x 0 86399999) (outE y 0 86399999))])) ∧ w = w' := by
  have HT : ∀ i W, _ := fun i W => time1_c i x W
  have HU : ∀ i W, _ := fun i W => time1_c i y W
  rcases outE_or x 0 86399999 with h1 | h1
  · rcases outE_or y 0 86399999 with h2 | h2
    all_goals
      rw [h1] at HT ⊢
      rw [h2] at HU ⊢
      replace HT := Lib.hid HT
      replace HU := Lib.hid HU
      clear h1 h2
      go_enter Tryz.func114, Tryz.ntmps114
      go_wp2_with fail
      refine wp_loop_rounds 3 ?_
      rw [rounds_succ]
      go_wp2_with fail
      with_reducible refine (HT.out _ _).mono ?_
      rintro e w4 ⟨rfl, rfl⟩
      go_wp2_with fail
      rw [rounds_succ]
      go_wp2_with fail
      with_reducible refine (HU.out _ _).mono ?_
      rintro e w4 ⟨rfl, rfl⟩
      go_wp2_with fail
    · rw [rounds_succ]
      go_wp2_with fail
      exact bodyPost_ret (v := .tuple #[.int .i64 0, .int .i64 0]) (by simp [results, Tryz.results114, go_sem]) rfl ⟨⟨0, rfl⟩, rfl⟩
    · exact bodyPost_ret (v := .tuple #[.int .i64 1, .int .i64 3]) (by simp [results, Tryz.results114, go_sem]) rfl ⟨⟨1, rfl⟩, rfl⟩
  · rw [h1] at HT ⊢
    replace HT := Lib.hid HT
    clear h1 HU
    have hq : fst2 3 (outE y 0 86399999) = 3 := rfl
    rw [hq]
    go_enter Tryz.func114, Tryz.ntmps114
    go_wp2_with fail
    refine wp_loop_rounds 3 ?_
    rw [rounds_succ]
    go_wp2_with fail
    refine (HT.out _ _).mono ?_
    rintro e w4 ⟨rfl, rfl⟩
    go_wp2_with fail
    exact bodyPost_ret (v := .tuple #[.int .i64 0, .int .i64 3]) (by simp [results, Tryz.results114, go_sem]) rfl ⟨⟨0, rfl⟩, rfl⟩
theorem each1_c (x : Int) (b cap : Nat) (w : World) (hx : w.cell? ⟨b, 0, none⟩ = some (.int .i64 x)) :
    Calls Tryz.prog 71 #[.slice (some ⟨b, 0, none⟩) 1 cap, .func (.func 72) #[] #[]] w fun e w' => e = .returned (.int .i64 (outE x 0 86399999)) ∧ w = w' := by
  have HF := Lib.hid (find1_c x b cap w hx)
  go_enter Tryz.func71, Tryz.ntmps71
  go_wp2_with fail
  refine HF.out.mono ?_
  rintro e w4 ⟨rfl, rfl⟩
  go_wp2_with fail
  go_ret
  exact ⟨rfl, rfl⟩
theorem each2_c (x y : Int) (b cap : Nat) (w : World) (hx : w.cell? ⟨b, 0, none⟩ = some (.int .i64 x)) (hy : w.cell? ⟨b, 1, none⟩ = some (.int .i64 y)) :
    Calls Tryz.prog 71 #[.slice (some ⟨b, 0, none⟩) 2 cap, .func (.func 72) #[] #[]] w fun e w' => e = .returned (.int .i64 (fst2 (outE x 0 86399999) (outE y 0 86399999))) ∧ w = w' := by
  have HF := Lib.hid (find2_c x y b cap w hx hy)
  go_enter Tryz.func71, Tryz.ntmps71
  go_wp2_with fail
  refine HF.out.mono ?_
  rintro e w4 ⟨⟨i, rfl⟩, rfl⟩
  go_wp2_with fail
  go_ret
  exact ⟨rfl, rfl⟩
/-- the error of starts: ex is that of the times -/
def startsE (n f e ex : Int) : Int := firstE [outE n 0 160, outE f 0 86399999, outE e 0 86399999, ex]
theorem first_four (x y z u : Int) (b cap : Nat) (w : World) (hx : w.cell? ⟨b, 0, none⟩ = some (.int .i64 x)) (hy : w.cell? ⟨b, 1, none⟩ = some (.int .i64 y)) (hz : w.cell? ⟨b, 2, none⟩ = some (.int .i64 z)) (hu : w.cell? ⟨b, 3, none⟩ = some (.int .i64 u)) :
    Calls Tryz.prog 36 #[.slice (some ⟨b, 0, none⟩) 4 cap] w fun e w' => e = .returned (.int .i64 (firstE [x, y, z, u])) ∧ w = w' :=
  first_c0 b 4 cap [x, y, z, u] w rfl (fun i v h => by
    rcases i with _ | _ | _ | _ | i <;> simp at h <;> subst h <;> assumption) (by omega)
theorem firstE_zero : ∀ {l : List Int}, firstE l = 0 → ∀ x ∈ l, x = 0
  | [], _, x, hx => by cases hx
  | y :: l, h, x, hx => by
    unfold firstE at h
    split at h
    · rename_i hy
      cases hx with
      | head => exact hy
      | tail _ hx => exact firstE_zero h x hx
    · rename_i hy
      exact absurd h hy
theorem startsE_zero {n f e ex : Int} (h : startsE n f e ex = 0) : Times n f e ∧ ex = 0 := by
  have h1 := firstE_zero h
  exact ⟨⟨outE_zero.1 (h1 _ (by simp)), outE_zero.1 (h1 _ (by simp)), outE_zero.1 (h1 _ (by simp))⟩, h1 _ (by simp)⟩
/-- the error of starts, the last one too late among them -/
def fullE (n f e ex : Int) : Int := if startsE n f e ex = 0 then (if decide (86399999 < f + (n - 1) * e) then 4 else 0) else startsE n f e ex
theorem box4 (w : World) (a0 a1 a2 a3 : Value) (T : Nat) : ∃ W, w.alloc (.cells #[a0, a1, a2, a3] T) = W ∧ Gr w W ∧ W.cell? ⟨w.heap.size, 0, none⟩ = some a0 ∧ W.cell? ⟨w.heap.size, 1, none⟩ = some a1 ∧ W.cell? ⟨w.heap.size, 2, none⟩ = some a2 ∧ W.cell? ⟨w.heap.size, 3, none⟩ = some a3 :=
  ⟨_, rfl, (Gr.refl w).alloc _, cell_new w #[a0, a1, a2, a3] T 0 (by simp), cell_new w #[a0, a1, a2, a3] T 1 (by simp), cell_new w #[a0, a1, a2, a3] T 2 (by simp), cell_new w #[a0, a1, a2, a3] T 3 (by simp)⟩
set_option maxHeartbeats 1000000 in
set_option maxRecDepth 100000 in
theorem checkStarts_c (n f e ex : Int) (ts : Value) (w : World) (hE : Calls Tryz.prog 71 #[ts, .func (.func 72) #[] #[]] w fun e w' => e = .returned (.int .i64 ex) ∧ w = w') :
    Calls Tryz.prog 35 #[.int .i64 n, .int .i64 f, .int .i64 e, ts] w fun x w' => x = .returned (.int .i64 (fullE n f e ex)) ∧ Gr w w' := by
  have H1 : ∀ W, _ := fun W => range_c n 0 160 W
  have H2 : ∀ W, _ := fun W => checkTime_c f W
  have H3 : ∀ W, _ := fun W => checkTime_c e W
  have HE := Lib.hid hE
  have HI := Lib.hid (fun b W => if_c b 4 W)
  have hF : fullE n f e ex = if startsE n f e ex = 0 then (if decide (86399999 < f + (n - 1) * e) then 4 else 0) else startsE n f e ex := rfl
  have hz : startsE n f e ex = 0 → Times n f e ∧ ex = 0 := startsE_zero
  have hd : startsE n f e ex = firstE [outE n 0 160, outE f 0 86399999, outE e 0 86399999, ex] := rfl
  generalize startsE n f e ex = err at *
  generalize outE n 0 160 = o1 at *
  generalize outE f 0 86399999 = o2 at *
  generalize outE e 0 86399999 = o3 at *
  have HF := Lib.hid (first_four o1 o2 o3 ex)
  obtain ⟨W, hW, g, a0, a1, a2, a3⟩ := box4 w (.int .i64 o1) (.int .i64 o2) (.int .i64 o3) (.int .i64 ex) 26
  rw [← hd] at HF
  replace H1 := Lib.hid H1
  replace H2 := Lib.hid H2
  replace H3 := Lib.hid H3
  have HW := Lib.hid hW
  clear hE hW hd
  by_cases h : err = 0
  · obtain ⟨ht, rfl⟩ := hz h
    subst h
    rw [if_pos rfl] at hF
    have hm := ht.mul (k := n - 1) (by have := ht.n; omega) (by have := ht.n; omega)
    have hn := ht.n
    have hf := ht.f
    have hw1 : IntKind.i64.wrap (n - 1) = n - 1 := by rw [IntKind.wrap_i64]; omega
    have hw2 : IntKind.i64.wrap ((n - 1) * e) = (n - 1) * e := by rw [IntKind.wrap_i64]; omega
    have hw3 : IntKind.i64.wrap (f + (n - 1) * e) = f + (n - 1) * e := by rw [IntKind.wrap_i64]; omega
    cases hl : decide (86399999 < f + (n - 1) * e)
    all_goals
      rw [hl] at hF
      have HFE := Lib.hid hF
      clear hF hz
      go_enter Tryz.func35, Tryz.ntmps35
      go_wp2_with fail
      refine (H1.out _).mono ?_
      rintro x w4 ⟨rfl, rfl⟩
      go_wp2_with fail
      with_reducible refine (H2.out _).mono ?_
      rintro x w4 ⟨rfl, rfl⟩
      go_wp2_with fail
      with_reducible refine (H3.out _).mono ?_
      rintro x w4 ⟨rfl, rfl⟩
      go_wp2_with fail
      refine HE.out.mono ?_
      rintro x w4 ⟨rfl, rfl⟩
      go_wp2_with fail
      rw [HW.out]
      refine (HF.out _ _ W a0 a1 a2 a3).mono ?_
      rintro x w4 ⟨rfl, rfl⟩
      go_wp2_with fail
      refine (HI.out _ _).mono ?_
      rintro x w4 ⟨rfl, rfl⟩
      go_wp2_with fail
      go_ret
      exact ⟨by rw [HFE.out]; rfl, g⟩
  · have h1 : (err == 0) = false := by simpa using h
    have h2 : (err != 0) = true := by simpa [bne] using h1
    rw [if_neg h] at hF
    have HFE := Lib.hid hF
    clear hF hz h
    go_enter Tryz.func35, Tryz.ntmps35
    go_wp2_with fail
    refine (H1.out _).mono ?_
    rintro x w4 ⟨rfl, rfl⟩
    go_wp2_with fail
    with_reducible refine (H2.out _).mono ?_
    rintro x w4 ⟨rfl, rfl⟩
    go_wp2_with fail
    with_reducible refine (H3.out _).mono ?_
    rintro x w4 ⟨rfl, rfl⟩
    go_wp2_with fail
    refine HE.out.mono ?_
    rintro x w4 ⟨rfl, rfl⟩
    go_wp2_with fail
    rw [HW.out]
    refine (HF.out _ _ W a0 a1 a2 a3).mono ?_
    rintro x w4 ⟨rfl, rfl⟩
    go_wp2_with fail
    go_ret
    exact ⟨by rw [HFE.out]; rfl, g⟩
end Go.Proofs.YtdpdbgcdmpdaoaaGreatDoor
