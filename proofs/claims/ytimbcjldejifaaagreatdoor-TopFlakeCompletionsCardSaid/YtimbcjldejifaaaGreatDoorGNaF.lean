/- ResultNarrows: one climber's values replaced in a list; lists of one integer compared. -/
import Derived.Test.YtimbcjldejifaaaGreatDoorGRkR
import Derived.Test.YtimbcjldejifaaaGreatDoorGExA
import Derived.Test.YtimbcjldejifaaaGreatDoorGExD
namespace Go.Proofs.YtimbcjldejifaaaGreatDoor
open Go.RowKit Go.Lib
set_option linter.unusedSimpArgs false
set_option linter.unusedVariables false
theorem store3 {w : World} {g : Nat} {cur : Array Value} {T : TypeId} (h : w.heap[g]? = some (.cells cur T (0, 0))) (j : Nat) (v0 v1 v2 : Value) :
    (((w.setCell ⟨g, j, none⟩ v0).setCell ⟨g, j + 1, none⟩ v1).setCell ⟨g, j + 2, none⟩ v2).heap[g]? = some (.cells (((cur.setIfInBounds j v0).setIfInBounds (j + 1) v1).setIfInBounds (j + 2) v2) T (0, 0)) :=
  heap_setCell_same _ g (j + 2) _ T v2 (heap_setCell_same _ g (j + 1) _ T v1 (heap_setCell_same w g j cur T v0 h))
theorem few_store {w : World} {N g capf n k : Nat} {xs : List OpR} {T : TypeId} (d : OpR) (ho : w.ownsRow N T 3 (.slice (some ⟨g, 0, none⟩) n capf) n (opCs xs)) (hn : xs.length = n) (hk : k < n) :
    OpsV (((w.setCell ⟨g, k * 3, none⟩ (.string d.nm)).setCell ⟨g, k * 3 + 1, none⟩ (.int .i64 d.lo)).setCell ⟨g, k * 3 + 2, none⟩ (.int .i64 d.hi)) (.slice (some ⟨g, 0, none⟩) n capf) (xs.set k d) ∧
      Below N w (((w.setCell ⟨g, k * 3, none⟩ (.string d.nm)).setCell ⟨g, k * 3 + 1, none⟩ (.int .i64 d.lo)).setCell ⟨g, k * 3 + 2, none⟩ (.int .i64 d.hi)) := by
  rcases ho.2 with ⟨e, _⟩ | ⟨g', cap', cur, e, hbg, hcur, hle, hmx, hsz, htk⟩
  · cases e
  simp only [Value.slice.injEq, Option.some.injEq, Addr.mk.injEq, and_true, true_and] at e
  obtain ⟨rfl, rfl⟩ := e
  have hs := store3 hcur (k * 3) (.string d.nm) (.int .i64 d.lo) (.int .i64 d.hi)
  refine ⟨⟨_, _, by simp [hn], ⟨by simp [hn]; exact hle, hmx⟩, fun _ => ⟨g, 0, rfl, fun i x hx => ?_⟩⟩, ?_⟩
  · have hil := (List.getElem?_eq_some_iff.1 hx).1
    rw [List.length_set] at hil
    rw [List.getElem?_set] at hx
    have hc : ∀ j, (((w.setCell ⟨g, k * 3, none⟩ (.string d.nm)).setCell ⟨g, k * 3 + 1, none⟩ (.int .i64 d.lo)).setCell ⟨g, k * 3 + 2, none⟩ (.int .i64 d.hi)).cell? ⟨g, j, none⟩ = (((cur.setIfInBounds (k * 3) (.string d.nm)).setIfInBounds (k * 3 + 1) (.int .i64 d.lo)).setIfInBounds (k * 3 + 2) (.int .i64 d.hi))[j]? := fun j => cell_of_row _ g j _ T (0, 0) hs
    by_cases hki : k = i
    · subst hki
      rw [if_pos rfl, if_pos (by omega)] at hx
      cases hx
      have q : k * 3 + 2 < cur.size := by rw [hsz]; omega
      refine ⟨?_, ?_, ?_⟩
      · rw [hc, Array.getElem?_setIfInBounds, if_neg (by omega), Array.getElem?_setIfInBounds, if_neg (by omega), Array.getElem?_setIfInBounds, if_pos (by omega), if_pos (by omega)]
      · rw [hc, Array.getElem?_setIfInBounds, if_neg (by omega), Array.getElem?_setIfInBounds, if_pos (by omega), if_pos (by simp; omega)]
      · rw [hc, Array.getElem?_setIfInBounds, if_pos (by omega), if_pos (by simp; omega)]
    · rw [if_neg hki] at hx
      have hold : ∀ j, j < 3 → (((w.setCell ⟨g, k * 3, none⟩ (.string d.nm)).setCell ⟨g, k * 3 + 1, none⟩ (.int .i64 d.lo)).setCell ⟨g, k * 3 + 2, none⟩ (.int .i64 d.hi)).cell? ⟨g, i * 3 + j, none⟩ = (opC x)[j]? := by
        intro j hj
        rw [hc, Array.getElem?_setIfInBounds, if_neg (by omega), Array.getElem?_setIfInBounds, if_neg (by omega), Array.getElem?_setIfInBounds, if_neg (by omega)]
        have h1 : (cur.toList.take (n * 3))[i * 3 + j]? = (opC x)[j]? := by rw [htk]; exact opCs_at hx j hj
        rw [List.getElem?_take, if_pos (by omega), Array.getElem?_toList] at h1
        exact h1
      rw [Nat.zero_add]
      exact ⟨hold 0 (by omega), hold 1 (by omega), hold 2 (by omega)⟩
  · exact (((Below.refl N w).setCell hbg _).setCell hbg _).setCell hbg _
theorem opsV_cells {w : World} {base n : Nat} {v : Value} {xs : List OpR} {T : TypeId} (hn : xs.length = n) (h : w.ownsRow base T 3 v n (opCs xs)) : OpsV w v xs := by
  subst hn
  exact opsV_of_owns h
set_option maxRecDepth 100000 in
theorem same_one (g R c n c2 : Nat) (v : Int) (cap : Nat) (w : World) (ha : w.cell? ⟨g, 0, none⟩ = some (.int .i64 v)) (hb : w.cell? ⟨R, c, none⟩ = some (.int .i64 v)) :
    Calls Tryz.prog 15 #[.slice (some ⟨g, 0, none⟩) 1 cap, .slice (some ⟨R, c, none⟩) 1 c2] w fun e w' => e = .returned (.bool true) ∧ Gr w w' := by
  go_enter Tryz.func15, Tryz.ntmps15
  go_wp2_with fail
  refine wp_loop_rounds 2 ?_
  rw [rounds_succ]
  go_wp2_with fail
  go_quiet (fail)
  go_wp2_with fail
  rw [rounds_succ]
  go_wp2_with fail
  go_ret
  exact ⟨rfl, (Gr.refl w).drewN _⟩
end Go.Proofs.YtimbcjldejifaaaGreatDoor
namespace Go.Proofs.YtimbcjldejifaaaGreatDoor
open Go.RowKit Go.Lib
set_option linter.unusedSimpArgs false
set_option linter.unusedVariables false
theorem others_at {xs : List OpR} {c : Nat} {j : Nat} {x : OpR} (h : (others xs c)[j]? = some x) : x ∈ xs := by
  have hm : x ∈ others xs c := List.mem_of_getElem? h
  unfold others at hm
  rcases List.mem_append.1 hm with h1 | h1
  · exact List.mem_of_mem_take h1
  · exact List.mem_of_mem_drop h1
theorem excl_I (hS : SortOK) {v : Value} {xs : List OpR} {w : World} (cl : Nat) (r : Int) (x : OpR) (h : OpsV w v xs) (hok : OkR xs) (hE : questE xs cl r = 0) (hx : xs[cl]? = some x) (hr0 : 1 ≤ r) (hr1 : r ≤ 1000) (hP : isPoss x.lo x.hi (others xs cl) r = false) :
    Calls Tryz.prog 9 #[v, .int .i64 cl, .int .i64 r] w fun e w' => ∃ s, e = .returned (.tuple #[s, .int .i64 0]) ∧ (∀ W, Gr w' W → Calls Tryz.prog 10 #[v, .int .i64 cl, .int .i64 r, s] W fun e W' => e = .returned (.int .i64 0) ∧ Gr W W') ∧ Gr w w' := by
  obtain ⟨e0, e1, e2⟩ := hok.ends cl x hx
  have hge := turn_ge x.lo (others xs cl) r
  have hle : turnV x.lo (others xs cl) r ≤ 99999 := turn_le (by omega) (by omega) (fun j z hz => by
    obtain ⟨a, ha⟩ := List.mem_iff_getElem?.1 (others_at hz)
    have := hok.ends a z ha
    omega)
  have hl := hok.len
  have hok2 := barsL_ok (lo := x.lo) (hi := x.hi) (T := turnV x.lo (others xs cl) r) e0 e2 (by omega) hle (by omega) (by omega)
  have hgood := bars_good (others xs cl) r x.lo x.hi (turnV x.lo (others xs cl) r) hr0 e1 rfl hle hP
  refine (excluded_some hS cl r x h hE hx hl hr0 hr1 hP (turnV x.lo (others xs cl) r) rfl (by omega) hle e0 e1 e2).mono ?_
  rintro e w' ⟨s, rfl, hown, g⟩
  have hne : 0 < (barsL x.lo x.hi (turnV x.lo (others xs cl) r)).length := by
    unfold barsL
    by_cases h1 : x.lo < turnV x.lo (others xs cl) r
    · rw [if_pos h1]; simp
    · rw [if_neg h1, if_pos (by omega)]; simp
  have hshort : (barsL x.lo x.hi (turnV x.lo (others xs cl) r)).length ≤ 2 := by
    unfold barsL
    rw [List.length_append]
    repeat' split
    all_goals simp
  have hbv := barsV_of_owns rfl hown hok2
  generalize barsL x.lo x.hi (turnV x.lo (others xs cl) r) = bs at *
  refine ⟨s, rfl, fun W gW => ?_, g⟩
  obtain ⟨⟨p, cap, rfl, hcap, hh⟩⟩ := hbv.gr gW
  obtain ⟨b2, o2, rfl, hc⟩ := hh hne
  obtain ⟨k, hk⟩ : ∃ k, bs.length = k + 1 := ⟨bs.length - 1, by omega⟩
  have hy : bs[k]? = some (bs[k]'(by omega)) := List.getElem?_eq_getElem _
  rw [hk] at hcap ⊢
  refine (checkEx_ok bs (bs[k]'(by omega)) k b2 o2 cap cl r x (h.gr (g.trans gW)) hk (by omega) hcap.1 hcap.2 hc hy hE hx hl hr0 hr1).mono ?_
  rintro e W' ⟨rfl, g2⟩
  rw [← exclE_at hk hy, hgood]
  exact ⟨rfl, g2⟩
end Go.Proofs.YtimbcjldejifaaaGreatDoor
