/- Races: Small of both, Next of the program. -/
import Derived.Test.YtgjcbiobedhjaaaGreatDoorRdK
import Derived.BigRegion
namespace Go.Proofs.YtgjcbiobedhjaaaGreatDoor
open Go.RowKit Go.Lib
set_option linter.unusedSimpArgs false
set_option linter.unusedVariables false
/-- the race of those who have lost -/
def smallR (l : List RaR) : RaR := raB (losR (l.getD 0 ⟨⟨#[]⟩, ⟨#[]⟩, 0⟩)) (losR (l.getD 1 ⟨⟨#[]⟩, ⟨#[]⟩, 0⟩))
theorem strs_two {w : World} {B : Nat} {x y : ByteArray} (h0 : w.cell? ⟨B, 0, none⟩ = some (.string x)) (h1 : w.cell? ⟨B, 1, none⟩ = some (.string y)) : StrAts w (.slice (some ⟨B, 0, none⟩) 2 2) [x, y] :=
  ⟨some ⟨B, 0, none⟩, 2, rfl, ⟨Nat.le_refl _, by unfold maxLen; omega⟩, fun _ => ⟨B, 0, rfl, fun i z hz => by
    match i, hz with
    | 0, hz => simp at hz; subst hz; exact ⟨h0⟩
    | 1, hz => simp at hz; subst hz; exact ⟨h1⟩⟩⟩
theorem own_race {w : World} {base : Nat} {T : TypeId} {u : Value} {r : RaR} (h : w.ownsRow base T 3 u 1 (raCs [r])) : ∃ g c, u = .slice (some ⟨g, 0, none⟩) 1 c ∧ w.cell? ⟨g, 0, none⟩ = some (.string r.a) ∧ w.cell? ⟨g, 1, none⟩ = some (.string r.b) ∧ w.cell? ⟨g, 2, none⟩ = some (.int .i64 r.w) := by
  have hh := h
  rcases h.2 with ⟨_, h0⟩ | ⟨g, cap, cur, rfl, _⟩
  · omega
  · refine ⟨g, cap, rfl, ?_⟩
    have e : ∀ j, (⟨g, 0, none⟩ : Addr).add j = ⟨g, j, none⟩ := fun j => by unfold Addr.add; split <;> simp_all
    have c0 := hh.cells (g := g) rfl 0 (.string r.a) rfl
    have c1 := hh.cells (g := g) rfl 1 (.string r.b) rfl
    have c2 := hh.cells (g := g) rfl 2 (.int .i64 r.w) rfl
    rw [e] at c0 c1 c2
    exact ⟨c0, c1, c2⟩
theorem store3 {w : World} {g : Nat} {T : TypeId} {x0 x1 x2 : Value} (a b c : Value) (h : w.heap[g]? = some (.cells #[x0, x1, x2] T (0, 0))) : (((w.setCell ⟨g, 0, none⟩ a).setCell ⟨g, 1, none⟩ b).setCell ⟨g, 2, none⟩ c).heap[g]? = some (.cells #[a, b, c] T (0, 0)) := by
  have := heap_setCell_same _ g 2 _ T c (heap_setCell_same _ g 1 _ T b (heap_setCell_same w g 0 _ T a h))
  simpa using this
set_option maxHeartbeats 4000000 in
set_option maxRecDepth 100000 in
theorem refSmall_c {v : Value} {l : List RaR} {w : World} (h : RaV w v l) (hl : l.length = 2) :
    Calls Tryz.prog 18 #[v] w fun e w' => e = .returned (raV (smallR l)) ∧ Gr w w' := by
  obtain ⟨⟨p, cap, rfl, ⟨hcap, hmx⟩, hr⟩⟩ := h
  obtain ⟨b, off, rfl, hc⟩ := hr.out (by omega)
  obtain ⟨r1, r2, rfl⟩ : ∃ r1 r2, l = [r1, r2] := by
    match l, hl with
    | [r1, r2], _ => exact ⟨r1, r2, rfl⟩
  obtain ⟨a0, a1, a2⟩ := hc 0 r1 rfl
  obtain ⟨d0, d1, d2⟩ := hc 1 r2 rfl
  obtain ⟨xa, xb, xw⟩ := r1
  obtain ⟨ya, yb, yw⟩ := r2
  simp only [Nat.zero_mul, Nat.one_mul, Nat.add_zero] at a0 a1 a2 d0 d1 d2
  rw [show [(⟨xa, xb, xw⟩ : RaR), ⟨ya, yb, yw⟩].length = 2 from rfl] at hcap ⊢
  have B0 := Lib.hid a0
  have B1 := Lib.hid a1
  have B2 := Lib.hid a2
  have B3 := Lib.hid d0
  have B4 := Lib.hid d1
  have B5 := Lib.hid d2
  clear hc hr hl
  have HL1 := Lib.hid (fun V => loser_c xa xb xw V)
  have HL2 := Lib.hid (fun V => loser_c ya yb yw V)
  have HE : Hid (raV (smallR [⟨xa, xb, xw⟩, ⟨ya, yb, yw⟩]) = .agg #[.string (losR ⟨xa, xb, xw⟩), .string (losR ⟨ya, yb, yw⟩), .int .i64 (walkW (losR ⟨xa, xb, xw⟩) (losR ⟨ya, yb, yw⟩))]) := rfl
  generalize losR ⟨xa, xb, xw⟩ = l1 at *
  generalize losR ⟨ya, yb, yw⟩ = l2 at *
  go_enter Tryz.func18, Tryz.ntmps18
  go_wp2_with fail
  obtain ⟨W1, hW1, gv, t0, t1, t2⟩ := box3 w (.string ⟨#[]⟩) (.string ⟨#[]⟩) (.int .i64 0) 40
  have tb : W1.heap[w.heap.size]? = some (.cells #[.string ⟨#[]⟩, .string ⟨#[]⟩, .int .i64 0] 40 (0, 0)) := by rw [← hW1]; exact heap_alloc_new w _
  rw [hW1]
  replace gv := gv.drew
  have tb : W1.drew.heap[w.heap.size]? = some (.cells #[.string ⟨#[]⟩, .string ⟨#[]⟩, .int .i64 0] 40 (0, 0)) := tb
  clear t0 t1 t2 hW1
  replace a0 := Gr.cell gv a0
  replace a1 := Gr.cell gv a1
  replace a2 := Gr.cell gv a2
  replace d0 := Gr.cell gv d0
  replace d1 := Gr.cell gv d1
  replace d2 := Gr.cell gv d2
  refine wp_region_held_drew (S := (fun w' => w'.cell? ⟨b, off, none⟩ = some (.string xa) ∧ w'.cell? ⟨b, off + 1, none⟩ = some (.string xb) ∧ w'.cell? ⟨b, off + 2, none⟩ = some (.int .i64 xw) ∧ w'.cell? ⟨b, off + 3, none⟩ = some (.string ya) ∧ w'.cell? ⟨b, off + 3 + 1, none⟩ = some (.string yb) ∧ w'.cell? ⟨b, off + 3 + 2, none⟩ = some (.int .i64 yw))) (by kernel_rfl) ⟨a0, a1, a2, d0, d1, d2⟩ (fun hHeld => ?_)
  generalize W1.drew = V at *
  have hbt : Hid (Gr V V) := Gr.refl V
  obtain ⟨g0, hg0⟩ : ∃ g0 : Gr V V, g0 = g0 := ⟨Gr.refl V, rfl⟩
  have TB := Lib.hid tb
  clear tb hg0 hbt
  have gx := Gr.refl V
  refine wpAnyH_take (i := 0) (v := (.slice (some ⟨b, off, none⟩) 2 cap)) (op_at rfl) (by kernel_rfl) (by kernel_rfl) (by kernel_rfl) (fun _ _ _ h => h) (Or.inl ⟨rfl, fun w hSw => ?_⟩) (by assumption) ?_
  · (try dsimp only at hSw); go_simp; try with_reducible rfl
  (try simp only [Act.put, List.setIfInBounds_toArray, List.set_cons_zero, List.set_cons_succ])
  refine wpAnyH_take (i := 1) (v := (.pointer (some ⟨b, off, none⟩))) (op_at rfl) (by kernel_rfl) (by kernel_rfl) (by kernel_rfl) (fun _ _ _ h => h) (Or.inl ⟨rfl, fun w hSw => ?_⟩) (by assumption) ?_
  · (try dsimp only at hSw); go_simp; try with_reducible rfl
  (try simp only [Act.put, List.setIfInBounds_toArray, List.set_cons_zero, List.set_cons_succ])
  refine wpAnyH_take (i := 2) (v := (.agg #[.string xa, .string xb, .int .i64 xw])) (op_at rfl) (by kernel_rfl) (by kernel_rfl) (by kernel_rfl) (fun _ _ _ h => h) (Or.inl ⟨rfl, fun w hSw => ?_⟩) (by assumption) ?_
  · (try dsimp only at hSw); go_simp; try with_reducible rfl
  (try simp only [Act.put, List.setIfInBounds_toArray, List.set_cons_zero, List.set_cons_succ])
  refine wpAnyH_take (i := 4) (v := (.slice (some ⟨b, off, none⟩) 2 cap)) (op_at rfl) (by kernel_rfl) (by kernel_rfl) (by kernel_rfl) (fun _ _ _ h => h) (Or.inl ⟨rfl, fun w hSw => ?_⟩) (by assumption) ?_
  · (try dsimp only at hSw); go_simp; try with_reducible rfl
  (try simp only [Act.put, List.setIfInBounds_toArray, List.set_cons_zero, List.set_cons_succ])
  refine wpAnyH_take (i := 5) (v := (.pointer (some ⟨b, off + 3, none⟩))) (op_at rfl) (by kernel_rfl) (by kernel_rfl) (by kernel_rfl) (fun _ _ _ h => h) (Or.inl ⟨rfl, fun w hSw => ?_⟩) (by assumption) ?_
  · (try dsimp only at hSw); go_simp; try with_reducible rfl
  (try simp only [Act.put, List.setIfInBounds_toArray, List.set_cons_zero, List.set_cons_succ])
  refine wpAnyH_take (i := 6) (v := (.agg #[.string ya, .string yb, .int .i64 yw])) (op_at rfl) (by kernel_rfl) (by kernel_rfl) (by kernel_rfl) (fun _ _ _ h => h) (Or.inl ⟨rfl, fun w hSw => ?_⟩) (by assumption) ?_
  · (try dsimp only at hSw); go_simp; try with_reducible rfl
  (try simp only [Act.put, List.setIfInBounds_toArray, List.set_cons_zero, List.set_cons_succ])
  refine wpAnyH_ready (rs := [3]) (by kernel_rfl) (by simp) (AllReadyH.cons (op_at rfl) (fun K hK => ?_) AllReadyH.nil)
  go_simp
  (refine (HL1.out _).mono ?_; rintro e V1 ⟨rfl, hg⟩; replace gv := Gr.trans gv hg; replace gx := Gr.trans gx hg; replace a0 := Gr.cell hg a0; replace a1 := Gr.cell hg a1; replace a2 := Gr.cell hg a2; replace d0 := Gr.cell hg d0; replace d1 := Gr.cell hg d1; replace d2 := Gr.cell hg d2; clear hg)
  go_wp2_with fail
  refine hK.out _ _ ⟨a0, a1, a2, d0, d1, d2⟩ (fun hHeld => ?_)
  clear hK K
  (try simp only [Act.put, List.setIfInBounds_toArray, List.set_cons_zero, List.set_cons_succ])
  refine wpAnyH_ready (rs := [7]) (by kernel_rfl) (by simp) (AllReadyH.cons (op_at rfl) (fun K hK => ?_) AllReadyH.nil)
  go_simp
  (refine (HL2.out _).mono ?_; rintro e V2 ⟨rfl, hg⟩; replace gv := Gr.trans gv hg; replace gx := Gr.trans gx hg; replace a0 := Gr.cell hg a0; replace a1 := Gr.cell hg a1; replace a2 := Gr.cell hg a2; replace d0 := Gr.cell hg d0; replace d1 := Gr.cell hg d1; replace d2 := Gr.cell hg d2; clear hg)
  go_wp2_with fail
  refine hK.out _ _ ⟨a0, a1, a2, d0, d1, d2⟩ (fun hHeld => ?_)
  clear hK K
  (try simp only [Act.put, List.setIfInBounds_toArray, List.set_cons_zero, List.set_cons_succ])
  refine wpAnyH_ready (rs := [8]) (by kernel_rfl) (by simp) (AllReadyH.cons (op_at rfl) (fun K hK => ?_) AllReadyH.nil)
  go_simp
  obtain ⟨V3, hV3, gV, s0, s1⟩ := box2 V2 (.string l1) (.string l2) 9
  have hsz3 : V3.heap.size = V2.heap.size + 1 := by rw [← hV3]; simp
  rw [hV3]
  clear hV3
  replace gv := Gr.trans gv gV
  replace gx := Gr.trans gx gV
  replace a0 := Gr.cell gV a0
  replace a1 := Gr.cell gV a1
  replace a2 := Gr.cell gV a2
  replace d0 := Gr.cell gV d0
  replace d1 := Gr.cell gV d1
  replace d2 := Gr.cell gV d2
  have HP := paired_c [l1, l2] (.slice (some ⟨V2.heap.size, 0, none⟩) 2 2) 1 V3 (strs_two s0 s1) rfl (by omega)
  rw [show pairR [l1, l2] = [raB l1 l2] from rfl] at HP
  have HPP := Lib.hid HP
  clear HP gV
  generalize V2.heap.size = Bs at *
  refine hK.out _ _ ⟨a0, a1, a2, d0, d1, d2⟩ (fun hHeld => ?_)
  clear hK K
  (try simp only [Act.put, List.setIfInBounds_toArray, List.set_cons_zero, List.set_cons_succ])
  refine wpAnyH_ready (rs := [9]) (by kernel_rfl) (by simp) (AllReadyH.cons (op_at rfl) (fun K hK => ?_) AllReadyH.nil)
  go_simp
  (refine HPP.out.mono ?_; rintro e V4 ⟨u, rfl, ho, hg⟩; obtain ⟨g5, cp5, rfl, hu0, hu1, hu2⟩ := own_race ho; replace gv := Gr.trans gv hg; replace gx := Gr.trans gx hg; replace a0 := Gr.cell hg a0; replace a1 := Gr.cell hg a1; replace a2 := Gr.cell hg a2; replace d0 := Gr.cell hg d0; replace d1 := Gr.cell hg d1; replace d2 := Gr.cell hg d2; clear hg ho HPP)
  go_wp2_with fail
  refine hK.out _ _ ⟨a0, a1, a2, d0, d1, d2⟩ (fun hHeld => ?_)
  clear hK K
  (try simp only [Act.put, List.setIfInBounds_toArray, List.set_cons_zero, List.set_cons_succ])
  refine wpAnyH_take (i := 10) (v := (.pointer (some ⟨g5, 0, none⟩))) (op_at rfl) (by kernel_rfl) (by kernel_rfl) (by kernel_rfl) (fun _ _ _ h => h) (Or.inl ⟨rfl, fun w hSw => ?_⟩) (by assumption) ?_
  · (try dsimp only at hSw); go_simp; try with_reducible rfl
  (try simp only [Act.put, List.setIfInBounds_toArray, List.set_cons_zero, List.set_cons_succ])
  refine wpAnyH_ready (rs := [11]) (by kernel_rfl) (by simp) (AllReadyH.cons (op_at rfl) (fun K hK => ?_) AllReadyH.nil)
  go_simp
  refine hK.out _ _ ⟨a0, a1, a2, d0, d1, d2⟩ (fun hHeld => ?_)
  clear hK K
  (try simp only [Act.put, List.setIfInBounds_toArray, List.set_cons_zero, List.set_cons_succ])
  refine wpAnyH_ready (rs := [12]) (by kernel_rfl) (by simp) (AllReadyH.cons (op_at rfl) (fun K hK => ?_) AllReadyH.nil)
  have tb4 := Gr.block gx TB.out
  obtain ⟨t0, t1, t2⟩ := cells3_of tb4
  have fr : V4.frozen? ⟨w.heap.size, 0, none⟩ = false := frozen_of_row _ _ 0 _ _ tb4
  have fr1 : V4.frozen? ⟨w.heap.size, 1, none⟩ = false := frozen_of_row _ _ 1 _ _ tb4
  have fr2 : V4.frozen? ⟨w.heap.size, 2, none⟩ = false := frozen_of_row _ _ 2 _ _ tb4
  go_simp
  have HU := Lib.hid (store3 (.string (raB l1 l2).a) (.string (raB l1 l2).b) (.int .i64 (raB l1 l2).w) tb4)
  have gu : Gr w (((V4.setCell ⟨w.heap.size, 0, none⟩ (.string (raB l1 l2).a)).setCell ⟨w.heap.size, 1, none⟩ (.string (raB l1 l2).b)).setCell ⟨w.heap.size, 2, none⟩ (.int .i64 (raB l1 l2).w)) := (((show Below w.heap.size w V4 from gv).setCell (p := ⟨w.heap.size, 0, none⟩) (Nat.le_refl _) _).setCell (p := ⟨w.heap.size, 1, none⟩) (Nat.le_refl _) _).setCell (p := ⟨w.heap.size, 2, none⟩) (Nat.le_refl _) _
  generalize (((V4.setCell ⟨w.heap.size, 0, none⟩ (.string (raB l1 l2).a)).setCell ⟨w.heap.size, 1, none⟩ (.string (raB l1 l2).b)).setCell ⟨w.heap.size, 2, none⟩ (.int .i64 (raB l1 l2).w)) = U at *
  refine hK.out _ _ ⟨Gr.cell gu B0.out, Gr.cell gu B1.out, Gr.cell gu B2.out, Gr.cell gu B3.out, Gr.cell gu B4.out, Gr.cell gu B5.out⟩ (fun hHeld => ?_)
  clear hK K
  refine wpAnyH_done (by kernel_rfl) ?_ _
  go_wp2_with fail
  obtain ⟨z0, z1, z2⟩ := cells3_of HU.out
  exact bodyPost_ret (v := .agg #[.string (raB l1 l2).a, .string (raB l1 l2).b, .int .i64 (raB l1 l2).w]) (by simp [results, Tryz.results18, go_sem, z0, z1, z2]) rfl ⟨by rw [HE.out]; rfl, gu⟩
theorem racesE_zero {l : List RaR} (h : racesE l = 0) : (l.length = 1 ∨ (∃ N, l.length = 2 * N ∧ 1 ≤ N ∧ N ≤ 16)) ∧ ∀ (i : Nat) (r : RaR), l[i]? = some r → 0 ≤ r.w ∧ r.w ≤ 3 := by
  unfold racesE at h
  split at h
  · rename_i hm
    refine ⟨?_, fun i r hr => ?_⟩
    · simp only [List.mem_cons, List.not_mem_nil, or_false] at hm
      rcases hm with h1 | h1 | h1 | h1 | h1 | h1
      · exact .inl h1
      · exact .inr ⟨1, by omega, by omega, by omega⟩
      · exact .inr ⟨2, by omega, by omega, by omega⟩
      · exact .inr ⟨4, by omega, by omega, by omega⟩
      · exact .inr ⟨8, by omega, by omega, by omega⟩
      · exact .inr ⟨16, by omega, by omega, by omega⟩
    · have hi := (List.getElem?_eq_some_iff.1 hr).1
      have h0 := errG_zero l.length 0 h (by omega) i r (by omega) (by omega) hr
      unfold raE raE0 at h0
      exact outE_zero.1 (firstE_zero h0 _ (by simp))
  · cases h
/-- the error of Next -/
def nextE (l : List RaR) : Int := firstE [racesE l, if ((l.length : Int) == 1) then 20 else 0, if openR l then 24 else 0]
/-- the error of Small -/
def smallE (l : List RaR) : Int := firstE [racesE l, if ((l.length : Int) != 2) then 2 else 0, if openR l then 24 else 0]
theorem nextE_zero {l : List RaR} (h : nextE l = 0) : ∃ N, l.length = 2 * N ∧ 1 ≤ N ∧ N ≤ 16 := by
  unfold nextE at h
  have h1 := firstE_zero h (racesE l) (by simp)
  have h2 := firstE_zero h _ (List.mem_cons_of_mem _ (List.mem_cons_self ..))
  rcases (racesE_zero h1).1 with h3 | h3
  · rw [h3] at h2; cases h2
  · exact h3
theorem smallE_zero {l : List RaR} (h : smallE l = 0) : l.length = 2 ∧ ∀ (i : Nat) (r : RaR), l[i]? = some r → 0 ≤ r.w ∧ r.w ≤ 3 := by
  unfold smallE at h
  have h1 := firstE_zero h (racesE l) (by simp)
  have h2 := firstE_zero h _ (List.mem_cons_of_mem _ (List.mem_cons_self ..))
  refine ⟨?_, (racesE_zero h1).2⟩
  by_cases e : (l.length : Int) = 2
  · omega
  · rw [if_pos (bne_iff_ne.2 e)] at h2; cases h2
set_option maxHeartbeats 4000000 in
set_option maxRecDepth 100000 in
theorem next_err {v : Value} {l : List RaR} {w : World} (h : RaV w v l) (hs : l.length ≤ 34) (he : nextE l ≠ 0) :
    Calls Tryz.prog 11 #[v] w fun e w' => e = .returned (.tuple #[.slice none 0 0, .int .i64 (nextE l)]) ∧ Gr w w' := by
  have HC := Lib.hid (checkRaces_c l v w h hs)
  have HI := Lib.hid (fun V => if_c ((l.length : Int) == 1) 20 V)
  have HD := Lib.hid (fun V (g : Gr w V) => checkDecided_c (h.gr g))
  have hz : nextE l = firstE [racesE l, if ((l.length : Int) == 1) then 20 else 0, if openR l then 24 else 0] := rfl
  obtain ⟨⟨p, cap, rfl, _, _⟩⟩ := h
  obtain ⟨z1, hz1⟩ : ∃ z, z = racesE l := ⟨_, rfl⟩
  obtain ⟨z2, hz2⟩ : ∃ z, z = (if ((l.length : Int) == 1) then (20 : Int) else 0) := ⟨_, rfl⟩
  obtain ⟨z3, hz3⟩ : ∃ z, z = (if openR l then (24 : Int) else 0) := ⟨_, rfl⟩
  rw [← hz1, ← hz2, ← hz3] at hz
  rw [← hz1] at HC
  rw [← hz2] at HI
  rw [← hz3] at HD
  have HF : Hid (∀ b cap V, V.cell? ⟨b, 0, none⟩ = some (.int .i64 z1) → V.cell? ⟨b, 1, none⟩ = some (.int .i64 z2) → V.cell? ⟨b, 2, none⟩ = some (.int .i64 z3) → Calls Tryz.prog 54 #[.slice (some ⟨b, 0, none⟩) 3 cap] V fun e w' => e = .returned (.int .i64 (nextE l)) ∧ V = w') := fun b cap V h0 h1 h2 => by rw [hz]; exact first_three z1 z2 z3 b cap V h0 h1 h2
  have t1 : (nextE l != 0) = true := bne_iff_ne.2 he
  generalize nextE l = z at *
  clear hz1 hz2 hz3 hz hs he
  generalize l.length = n at *
  go_enter Tryz.func11, Tryz.ntmps11
  go_wp2_with fail
  refine (HC.out.mono ?_)
  rintro e W1 ⟨rfl, g1⟩
  have GA := Lib.hid g1
  go_wp2_with fail
  refine (HI.out _).mono ?_
  rintro e W2 ⟨rfl, rfl⟩
  go_wp2_with fail
  refine (HD.out _ GA.out).mono ?_
  rintro e W3 ⟨rfl, g3⟩
  have GB := Lib.hid (GA.out.trans g3)
  obtain ⟨W4, hW4, g4, s0, s1, s2⟩ := box3 W3 (.int .i64 z1) (.int .i64 z2) (.int .i64 z3) 28
  have HF1 := Lib.hid (HF.out _ 3 W4 s0 s1 s2)
  have HW4 := Lib.hid hW4
  have GC := Lib.hid (GB.out.trans g4)
  clear hW4 g1 g3 g4 s0 s1 s2
  go_wp2_with fail
  rw [HW4.out]
  refine HF1.out.mono ?_
  rintro e W5 ⟨rfl, rfl⟩
  go_wp2_with fail
  exact bodyPost_ret (v := .tuple #[.slice none 0 0, .int .i64 z]) (by simp [results, Tryz.results11, go_sem]) rfl ⟨rfl, GC.out⟩
set_option maxHeartbeats 4000000 in
set_option maxRecDepth 100000 in
theorem next_ok {v : Value} {l : List RaR} {w : World} (h : RaV w v l) (hs : l.length ≤ 34) (he : nextE l = 0) :
    Calls Tryz.prog 11 #[v] w fun e w' => ∃ q N c, e = .returned (.tuple #[.slice q N c, .int .i64 0]) ∧ RaS w' q (pairR (l.map winR)) ∧ (pairR (l.map winR)).length = N ∧ N ≤ 100 ∧ Gr w w' := by
  obtain ⟨N, hN, hN1, hN5⟩ := nextE_zero he
  have HC := Lib.hid (checkRaces_c l v w h hs)
  have HI := Lib.hid (fun V => if_c ((l.length : Int) == 1) 20 V)
  have HD := Lib.hid (fun V (g : Gr w V) => checkDecided_c (h.gr g))
  have HX := Lib.hid (fun V (g : Gr w V) => next_c N (h.gr g) hN hN1 (by omega))
  have HN5 : Hid (N ≤ 100) := by rw [Hid]; omega
  have hz : nextE l = firstE [racesE l, if ((l.length : Int) == 1) then 20 else 0, if openR l then 24 else 0] := rfl
  obtain ⟨⟨p, cap, rfl, _, _⟩⟩ := h
  obtain ⟨z1, hz1⟩ : ∃ z, z = racesE l := ⟨_, rfl⟩
  obtain ⟨z2, hz2⟩ : ∃ z, z = (if ((l.length : Int) == 1) then (20 : Int) else 0) := ⟨_, rfl⟩
  obtain ⟨z3, hz3⟩ : ∃ z, z = (if openR l then (24 : Int) else 0) := ⟨_, rfl⟩
  rw [← hz1, ← hz2, ← hz3] at hz
  rw [← hz1] at HC
  rw [← hz2] at HI
  rw [← hz3] at HD
  have HF : Hid (∀ b cap V, V.cell? ⟨b, 0, none⟩ = some (.int .i64 z1) → V.cell? ⟨b, 1, none⟩ = some (.int .i64 z2) → V.cell? ⟨b, 2, none⟩ = some (.int .i64 z3) → Calls Tryz.prog 54 #[.slice (some ⟨b, 0, none⟩) 3 cap] V fun e w' => e = .returned (.int .i64 0) ∧ V = w') := fun b cap V h0 h1 h2 => by rw [← he, hz]; exact first_three z1 z2 z3 b cap V h0 h1 h2
  clear hz1 hz2 hz3 hz hs he hN hN1 hN5
  generalize pairR (l.map winR) = res at *
  generalize l.length = n at *
  go_enter Tryz.func11, Tryz.ntmps11
  go_wp2_with fail
  refine (HC.out.mono ?_)
  rintro e W1 ⟨rfl, g1⟩
  have GA := Lib.hid g1
  go_wp2_with fail
  refine (HI.out _).mono ?_
  rintro e W2 ⟨rfl, rfl⟩
  go_wp2_with fail
  refine (HD.out _ GA.out).mono ?_
  rintro e W3 ⟨rfl, g3⟩
  have GB := Lib.hid (GA.out.trans g3)
  obtain ⟨W4, hW4, g4, s0, s1, s2⟩ := box3 W3 (.int .i64 z1) (.int .i64 z2) (.int .i64 z3) 28
  have HF1 := Lib.hid (HF.out _ 3 W4 s0 s1 s2)
  have HW4 := Lib.hid hW4
  have GC := Lib.hid (GB.out.trans g4)
  clear hW4 g1 g3 g4 s0 s1 s2
  go_wp2_with fail
  rw [HW4.out]
  refine HF1.out.mono ?_
  rintro e W5 ⟨rfl, rfl⟩
  go_wp2_with fail
  refine (HX.out _ GC.out).mono ?_
  rintro e W6 ⟨q, c, rfl, hr, hl, g6⟩
  have HR6 := Lib.hid hr
  have HL6 := Lib.hid hl
  have G6 := Lib.hid (GC.out.trans g6)
  clear hr hl g6
  go_wp2_with fail
  exact bodyPost_ret (v := .tuple #[.slice q N c, .int .i64 0]) (by simp [results, Tryz.results11, go_sem]) rfl ⟨q, N, c, rfl, HR6.out, HL6.out, HN5.out, G6.out⟩

theorem small_lane (r : RaR) (j : Nat) (k : Int) (h : r.w = (j : Int)) (hj : (j = 0 ∧ k = 0) ∨ (j = 1 ∧ k = 2) ∨ (j = 2 ∧ k = 1) ∨ (j = 3 ∧ k = 0)) : inR r k = losR r := by
  unfold inR losR
  rcases hj with ⟨rfl, rfl⟩ | ⟨rfl, rfl⟩ | ⟨rfl, rfl⟩ | ⟨rfl, rfl⟩ <;> simp [h]
/-- the table of the lanes of those who have lost -/
structure Beat (w : World) : Prop where
  mk' ::
  out : w.cell? ⟨0, 0, none⟩ = some (.int .i64 0) ∧ w.cell? ⟨0, 1, none⟩ = some (.int .i64 2) ∧ w.cell? ⟨0, 2, none⟩ = some (.int .i64 1) ∧ w.cell? ⟨0, 3, none⟩ = some (.int .i64 0)
theorem Beat.gr {w w' : World} (h : Beat w) (k : Gr w w') : Beat w' := ⟨k.cell h.out.1, k.cell h.out.2.1, k.cell h.out.2.2.1, k.cell h.out.2.2.2⟩
theorem Beat.at {w : World} (h : Beat w) {z : Int} (h0 : 0 ≤ z) (h3 : z ≤ 3) : ∃ (j : Nat) (k : Int), z = (j : Int) ∧ j < 4 ∧ w.cell? ⟨0, j, none⟩ = some (.int .i64 k) ∧ ((j = 0 ∧ k = 0) ∨ (j = 1 ∧ k = 2) ∨ (j = 2 ∧ k = 1) ∨ (j = 3 ∧ k = 0)) := by
  obtain ⟨⟨c0, c1, c2, c3⟩⟩ := h
  obtain ⟨j, rfl⟩ : ∃ j : Nat, z = (j : Int) := ⟨z.toNat, by omega⟩
  have hj : j = 0 ∨ j = 1 ∨ j = 2 ∨ j = 3 := by omega
  rcases hj with rfl | rfl | rfl | rfl
  · exact ⟨0, 0, rfl, by omega, c0, .inl ⟨rfl, rfl⟩⟩
  · exact ⟨1, 2, rfl, by omega, c1, .inr (.inl ⟨rfl, rfl⟩)⟩
  · exact ⟨2, 1, rfl, by omega, c2, .inr (.inr (.inl ⟨rfl, rfl⟩))⟩
  · exact ⟨3, 0, rfl, by omega, c3, .inr (.inr (.inr ⟨rfl, rfl⟩))⟩
set_option maxHeartbeats 4000000 in
set_option maxRecDepth 100000 in
theorem small_err {v : Value} {l : List RaR} {w : World} (h : RaV w v l) (hs : l.length ≤ 34) (he : smallE l ≠ 0) :
    Calls Tryz.prog 12 #[v] w fun e w' => e = .returned (.tuple #[.agg #[.string ⟨#[]⟩, .string ⟨#[]⟩, .int .i64 0], .int .i64 (smallE l)]) ∧ Gr w w' := by
  obtain ⟨W0, hW0, g0, t0, t1, t2⟩ := box3 w (.string ⟨#[]⟩) (.string ⟨#[]⟩) (.int .i64 0) 33
  have TB : Hid (W0.heap[w.heap.size]? = some (.cells #[.string ⟨#[]⟩, .string ⟨#[]⟩, .int .i64 0] 33 (0, 0))) := by rw [Hid, ← hW0]; exact heap_alloc_new w _
  have HW0 := Lib.hid hW0
  clear hW0 t0 t1 t2
  have HC := Lib.hid (checkRaces_c l v W0 (h.gr g0) hs)
  have HI := Lib.hid (fun V => if_c ((l.length : Int) != 2) 2 V)
  have HD := Lib.hid (fun V (g : Gr W0 V) => checkDecided_c (h.gr (g0.trans g)))
  have hz : smallE l = firstE [racesE l, if ((l.length : Int) != 2) then 2 else 0, if openR l then 24 else 0] := rfl
  obtain ⟨⟨p, cap, rfl, _, _⟩⟩ := h
  obtain ⟨z1, hz1⟩ : ∃ z, z = racesE l := ⟨_, rfl⟩
  obtain ⟨z2, hz2⟩ : ∃ z, z = (if ((l.length : Int) != 2) then (2 : Int) else 0) := ⟨_, rfl⟩
  obtain ⟨z3, hz3⟩ : ∃ z, z = (if openR l then (24 : Int) else 0) := ⟨_, rfl⟩
  rw [← hz1, ← hz2, ← hz3] at hz
  rw [← hz1] at HC
  rw [← hz2] at HI
  rw [← hz3] at HD
  have HF : Hid (∀ b cap V, V.cell? ⟨b, 0, none⟩ = some (.int .i64 z1) → V.cell? ⟨b, 1, none⟩ = some (.int .i64 z2) → V.cell? ⟨b, 2, none⟩ = some (.int .i64 z3) → Calls Tryz.prog 54 #[.slice (some ⟨b, 0, none⟩) 3 cap] V fun e w' => e = .returned (.int .i64 (smallE l)) ∧ V = w') := fun b cap V h0 h1 h2 => by rw [hz]; exact first_three z1 z2 z3 b cap V h0 h1 h2
  have t1 : (smallE l != 0) = true := bne_iff_ne.2 he
  generalize smallE l = z at *
  clear hz1 hz2 hz3 hz hs he
  generalize l.length = n at *
  go_enter Tryz.func12, Tryz.ntmps12
  go_wp2_with fail
  rw [HW0.out]
  refine (HC.out.mono ?_)
  rintro e W1 ⟨rfl, g1⟩
  have GA := Lib.hid g1
  go_wp2_with fail
  refine (HI.out _).mono ?_
  rintro e W2 ⟨rfl, rfl⟩
  go_wp2_with fail
  refine (HD.out _ GA.out).mono ?_
  rintro e W3 ⟨rfl, g3⟩
  have GB := Lib.hid (GA.out.trans g3)
  obtain ⟨W4, hW4, g4, s0, s1, s2⟩ := box3 W3 (.int .i64 z1) (.int .i64 z2) (.int .i64 z3) 28
  have HF1 := Lib.hid (HF.out _ 3 W4 s0 s1 s2)
  have HW4 := Lib.hid hW4
  have GC := Lib.hid (GB.out.trans g4)
  clear hW4 g1 g3 g4 s0 s1 s2
  go_wp2_with fail
  rw [HW4.out]
  refine HF1.out.mono ?_
  rintro e W5 ⟨rfl, rfl⟩
  have TB4 := Gr.block GC.out TB.out
  obtain ⟨t0, t1, t2⟩ := cells3_of TB4
  have fr : W4.frozen? ⟨w.heap.size, 0, none⟩ = false := frozen_of_row _ _ 0 _ _ TB4
  have fr1 : W4.frozen? ⟨w.heap.size, 1, none⟩ = false := frozen_of_row _ _ 1 _ _ TB4
  have fr2 : W4.frozen? ⟨w.heap.size, 2, none⟩ = false := frozen_of_row _ _ 2 _ _ TB4
  have HU := Lib.hid (store3 (.string ⟨#[]⟩) (.string ⟨#[]⟩) (.int .i64 0) TB4)
  have gu : Gr w (((W4.setCell ⟨w.heap.size, 0, none⟩ (.string ⟨#[]⟩)).setCell ⟨w.heap.size, 1, none⟩ (.string ⟨#[]⟩)).setCell ⟨w.heap.size, 2, none⟩ (.int .i64 0)) := (((show Below w.heap.size w W4 from g0.trans GC.out).setCell (p := ⟨w.heap.size, 0, none⟩) (Nat.le_refl _) _).setCell (p := ⟨w.heap.size, 1, none⟩) (Nat.le_refl _) _).setCell (p := ⟨w.heap.size, 2, none⟩) (Nat.le_refl _) _
  clear TB4
  go_wp2_with fail
  obtain ⟨z0, z1, z2⟩ := cells3_of HU.out
  exact bodyPost_ret (v := .tuple #[.agg #[.string ⟨#[]⟩, .string ⟨#[]⟩, .int .i64 0], .int .i64 z]) (by simp [results, Tryz.results12, go_sem, z0, z1, z2]) rfl ⟨rfl, gu⟩
set_option maxHeartbeats 4000000 in
set_option maxRecDepth 100000 in
theorem small_ok {v : Value} {l : List RaR} {w : World} (h : RaV w v l) (hbt : Beat w) (hs : l.length ≤ 34) (he : smallE l = 0) :
    Calls Tryz.prog 12 #[v] w fun e w' => e = .returned (.tuple #[raV (smallR l), .int .i64 0]) ∧ Gr w w' := by
  obtain ⟨hl, hww⟩ := smallE_zero he
  obtain ⟨r1, hr1⟩ : ∃ r, l[0]? = some r := ⟨l[0]'(by omega), List.getElem?_eq_getElem _⟩
  obtain ⟨r2, hr2⟩ : ∃ r, l[1]? = some r := ⟨l[1]'(by omega), List.getElem?_eq_getElem _⟩
  have hsr : smallR l = raB (losR r1) (losR r2) := by
    unfold smallR
    rw [List.getD_eq_getElem?_getD, List.getD_eq_getElem?_getD, hr1, hr2]; rfl
  obtain ⟨W0, hW0, g0, t0, t1, t2⟩ := box3 w (.string ⟨#[]⟩) (.string ⟨#[]⟩) (.int .i64 0) 33
  have TB : Hid (W0.heap[w.heap.size]? = some (.cells #[.string ⟨#[]⟩, .string ⟨#[]⟩, .int .i64 0] 33 (0, 0))) := by rw [Hid, ← hW0]; exact heap_alloc_new w _
  have HW0 := Lib.hid hW0
  clear hW0 t0 t1 t2
  have HC := Lib.hid (checkRaces_c l v W0 (h.gr g0) hs)
  have HI := Lib.hid (fun V => if_c ((l.length : Int) != 2) 2 V)
  have HD := Lib.hid (fun V (g : Gr W0 V) => checkDecided_c (h.gr (g0.trans g)))
  have hz : smallE l = firstE [racesE l, if ((l.length : Int) != 2) then 2 else 0, if openR l then 24 else 0] := rfl
  obtain ⟨z1, hz1⟩ : ∃ z, z = racesE l := ⟨_, rfl⟩
  obtain ⟨z2, hz2⟩ : ∃ z, z = (if ((l.length : Int) != 2) then (2 : Int) else 0) := ⟨_, rfl⟩
  obtain ⟨z3, hz3⟩ : ∃ z, z = (if openR l then (24 : Int) else 0) := ⟨_, rfl⟩
  rw [← hz1, ← hz2, ← hz3] at hz
  rw [← hz1] at HC
  rw [← hz2] at HI
  rw [← hz3] at HD
  have HF : Hid (∀ b cap V, V.cell? ⟨b, 0, none⟩ = some (.int .i64 z1) → V.cell? ⟨b, 1, none⟩ = some (.int .i64 z2) → V.cell? ⟨b, 2, none⟩ = some (.int .i64 z3) → Calls Tryz.prog 54 #[.slice (some ⟨b, 0, none⟩) 3 cap] V fun e w' => e = .returned (.int .i64 0) ∧ V = w') := fun b cap V h0 h1 h2 => by rw [← he, hz]; exact first_three z1 z2 z3 b cap V h0 h1 h2
  clear hz1 hz2 hz3 hz hs he
  obtain ⟨⟨p, cap, rfl, ⟨hcap, hmx⟩, hr⟩⟩ := h
  obtain ⟨b, off, rfl, hc⟩ := hr.out (by omega)
  obtain ⟨a0, a1, a2⟩ := hc 0 r1 hr1
  obtain ⟨d0, d1, d2⟩ := hc 1 r2 hr2
  obtain ⟨hx0, hx3⟩ := hww 0 _ hr1
  obtain ⟨hy0, hy3⟩ := hww 1 _ hr2
  obtain ⟨xa, xb, xw⟩ := r1
  obtain ⟨ya, yb, yw⟩ := r2
  simp only [Nat.zero_mul, Nat.one_mul, Nat.add_zero] at a0 a1 a2 d0 d1 d2
  rw [hl] at hcap HC HI HD ⊢
  have B0 := Lib.hid a0
  have B1 := Lib.hid a1
  have B2 := Lib.hid a2
  have B3 := Lib.hid d0
  have B4 := Lib.hid d1
  have B5 := Lib.hid d2
  clear hc hr hl hr1 hr2
  simp only at hx0 hx3 hy0 hy3
  obtain ⟨j1, k1, rfl, hj1, q1, hk1⟩ := hbt.at hx0 hx3
  obtain ⟨j2, k2, rfl, hj2, q2, hk2⟩ := hbt.at hy0 hy3
  have HL1 : Hid (∀ V, Calls Tryz.prog 59 #[.agg #[.string xa, .string xb, .int .i64 (j1 : Int)], .int .i64 k1] V fun e w' => e = .returned (.string (losR ⟨xa, xb, (j1 : Int)⟩)) ∧ Gr V w') := fun V => by rw [← small_lane ⟨xa, xb, (j1 : Int)⟩ j1 k1 rfl hk1]; exact inR_c ⟨xa, xb, (j1 : Int)⟩ k1 V
  have HL2 : Hid (∀ V, Calls Tryz.prog 59 #[.agg #[.string ya, .string yb, .int .i64 (j2 : Int)], .int .i64 k2] V fun e w' => e = .returned (.string (losR ⟨ya, yb, (j2 : Int)⟩)) ∧ Gr V w') := fun V => by rw [← small_lane ⟨ya, yb, (j2 : Int)⟩ j2 k2 rfl hk2]; exact inR_c ⟨ya, yb, (j2 : Int)⟩ k2 V
  rw [hsr]
  unfold raV raB
  clear hsr
  generalize losR ⟨xa, xb, (j1 : Int)⟩ = l1 at *
  generalize losR ⟨ya, yb, (j2 : Int)⟩ = l2 at *
  have HRO : Hid (∀ V, Calls Tryz.prog 58 #[.string l1, .string l2] V fun e w' => e = .returned (.agg #[.string l1, .string l2, .int .i64 (walkW l1 l2)]) ∧ Gr V w') := fun V => by have := raceOf_c l1 l2 V; unfold raV raB at this; exact this
  generalize walkW l1 l2 = ww at *
  have Q1 := Lib.hid q1
  have Q2 := Lib.hid q2
  have hj1i : (j1 : Int) < 4 := by omega
  have hj2i : (j2 : Int) < 4 := by omega
  clear hx0 hx3 hy0 hy3 hk1 hk2 hww hbt a0 a1 a2 d0 d1 d2 q1 q2
  go_enter Tryz.func12, Tryz.ntmps12
  go_wp2_with fail
  rw [HW0.out]
  refine (HC.out.mono ?_)
  rintro e W1 ⟨rfl, g1⟩
  have GA := Lib.hid g1
  go_wp2_with fail
  refine (HI.out _).mono ?_
  rintro e W2 ⟨rfl, rfl⟩
  go_wp2_with fail
  refine (HD.out _ GA.out).mono ?_
  rintro e W3 ⟨rfl, g3⟩
  have GB := Lib.hid (GA.out.trans g3)
  obtain ⟨W4, hW4, g4, s0, s1, s2⟩ := box3 W3 (.int .i64 z1) (.int .i64 z2) (.int .i64 z3) 28
  have HF1 := Lib.hid (HF.out _ 3 W4 s0 s1 s2)
  have HW4 := Lib.hid hW4
  have GC := Lib.hid (GB.out.trans g4)
  clear hW4 g1 g3 g4 s0 s1 s2
  go_wp2_with fail
  rw [HW4.out]
  refine HF1.out.mono ?_
  rintro e W5 ⟨rfl, rfl⟩
  go_wp2_with fail
  have gv := (g0.trans GC.out).drew
  have tb := Gr.block (GC.out.drew) TB.out
  have a0 := Gr.cell gv B0.out
  have a1 := Gr.cell gv B1.out
  have a2 := Gr.cell gv B2.out
  have d0 := Gr.cell gv B3.out
  have d1 := Gr.cell gv B4.out
  have d2 := Gr.cell gv B5.out
  have q1 := Gr.cell gv Q1.out
  have q2 := Gr.cell gv Q2.out
  refine wp_region_held_drew (S := (fun w' => w'.cell? ⟨b, off, none⟩ = some (.string xa) ∧ w'.cell? ⟨b, off + 1, none⟩ = some (.string xb) ∧ w'.cell? ⟨b, off + 2, none⟩ = some (.int .i64 (j1 : Int)) ∧ w'.cell? ⟨b, off + 3, none⟩ = some (.string ya) ∧ w'.cell? ⟨b, off + 3 + 1, none⟩ = some (.string yb) ∧ w'.cell? ⟨b, off + 3 + 2, none⟩ = some (.int .i64 (j2 : Int)) ∧ w'.cell? ⟨0, j1, none⟩ = some (.int .i64 k1) ∧ w'.cell? ⟨0, j2, none⟩ = some (.int .i64 k2))) (by kernel_rfl) ⟨a0, a1, a2, d0, d1, d2, q1, q2⟩ (fun hHeld => ?_)
  generalize W4.drew = V at *
  have TB := Lib.hid tb
  clear tb
  have gx := Gr.refl V
  refine wpAnyH_take (i := 0) (v := (.slice (some ⟨b, off, none⟩) 2 cap)) (op_at rfl) (by kernel_rfl) (by kernel_rfl) (by kernel_rfl) (fun _ _ _ h => h) (Or.inl ⟨rfl, fun w hSw => ?_⟩) (by assumption) ?_
  · (try dsimp only at hSw); go_simp; try with_reducible rfl
  (try simp only [Act.put, List.setIfInBounds_toArray, List.set_cons_zero, List.set_cons_succ])
  refine wpAnyH_take (i := 1) (v := (.pointer (some ⟨b, off, none⟩))) (op_at rfl) (by kernel_rfl) (by kernel_rfl) (by kernel_rfl) (fun _ _ _ h => h) (Or.inl ⟨rfl, fun w hSw => ?_⟩) (by assumption) ?_
  · (try dsimp only at hSw); go_simp; try with_reducible rfl
  (try simp only [Act.put, List.setIfInBounds_toArray, List.set_cons_zero, List.set_cons_succ])
  refine wpAnyH_take (i := 2) (v := (.agg #[.string xa, .string xb, .int .i64 (j1 : Int)])) (op_at rfl) (by kernel_rfl) (by kernel_rfl) (by kernel_rfl) (fun _ _ _ h => h) (Or.inl ⟨rfl, fun w hSw => ?_⟩) (by assumption) ?_
  · (try dsimp only at hSw); go_simp; try with_reducible rfl
  (try simp only [Act.put, List.setIfInBounds_toArray, List.set_cons_zero, List.set_cons_succ])
  refine wpAnyH_take (i := 3) (v := (.slice (some ⟨b, off, none⟩) 2 cap)) (op_at rfl) (by kernel_rfl) (by kernel_rfl) (by kernel_rfl) (fun _ _ _ h => h) (Or.inl ⟨rfl, fun w hSw => ?_⟩) (by assumption) ?_
  · (try dsimp only at hSw); go_simp; try with_reducible rfl
  (try simp only [Act.put, List.setIfInBounds_toArray, List.set_cons_zero, List.set_cons_succ])
  refine wpAnyH_take (i := 4) (v := (.pointer (some ⟨b, off, none⟩))) (op_at rfl) (by kernel_rfl) (by kernel_rfl) (by kernel_rfl) (fun _ _ _ h => h) (Or.inl ⟨rfl, fun w hSw => ?_⟩) (by assumption) ?_
  · (try dsimp only at hSw); go_simp; try with_reducible rfl
  (try simp only [Act.put, List.setIfInBounds_toArray, List.set_cons_zero, List.set_cons_succ])
  refine wpAnyH_take (i := 5) (v := (.pointer (some ⟨b, off + 2, none⟩))) (op_at rfl) (by kernel_rfl) (by kernel_rfl) (by kernel_rfl) (fun _ _ _ h => h) (Or.inl ⟨rfl, fun w hSw => ?_⟩) (by assumption) ?_
  · (try dsimp only at hSw); go_simp; try with_reducible rfl
  (try simp only [Act.put, List.setIfInBounds_toArray, List.set_cons_zero, List.set_cons_succ])
  refine wpAnyH_take (i := 6) (v := (.int .i64 (j1 : Int))) (op_at rfl) (by kernel_rfl) (by kernel_rfl) (by kernel_rfl) (fun _ _ _ h => h) (Or.inl ⟨rfl, fun w hSw => ?_⟩) (by assumption) ?_
  · (try dsimp only at hSw); go_simp; try with_reducible rfl
  (try simp only [Act.put, List.setIfInBounds_toArray, List.set_cons_zero, List.set_cons_succ])
  refine wpAnyH_take (i := 7) (v := (.pointer (some ⟨0, j1, none⟩))) (op_at rfl) (by kernel_rfl) (by kernel_rfl) (by kernel_rfl) (fun _ _ _ h => h) (Or.inl ⟨rfl, fun w hSw => ?_⟩) (by assumption) ?_
  · (try dsimp only at hSw); go_simp; try with_reducible rfl
  (try simp only [Act.put, List.setIfInBounds_toArray, List.set_cons_zero, List.set_cons_succ])
  refine wpAnyH_take (i := 8) (v := (.int .i64 k1)) (op_at rfl) (by kernel_rfl) (by kernel_rfl) (by kernel_rfl) (fun _ _ _ h => h) (Or.inl ⟨rfl, fun w hSw => ?_⟩) (by assumption) ?_
  · (try dsimp only at hSw); go_simp; try with_reducible rfl
  (try simp only [Act.put, List.setIfInBounds_toArray, List.set_cons_zero, List.set_cons_succ])
  refine wpAnyH_take (i := 10) (v := (.slice (some ⟨b, off, none⟩) 2 cap)) (op_at rfl) (by kernel_rfl) (by kernel_rfl) (by kernel_rfl) (fun _ _ _ h => h) (Or.inl ⟨rfl, fun w hSw => ?_⟩) (by assumption) ?_
  · (try dsimp only at hSw); go_simp; try with_reducible rfl
  (try simp only [Act.put, List.setIfInBounds_toArray, List.set_cons_zero, List.set_cons_succ])
  refine wpAnyH_take (i := 11) (v := (.pointer (some ⟨b, off + 3, none⟩))) (op_at rfl) (by kernel_rfl) (by kernel_rfl) (by kernel_rfl) (fun _ _ _ h => h) (Or.inl ⟨rfl, fun w hSw => ?_⟩) (by assumption) ?_
  · (try dsimp only at hSw); go_simp; try with_reducible rfl
  (try simp only [Act.put, List.setIfInBounds_toArray, List.set_cons_zero, List.set_cons_succ])
  refine wpAnyH_take (i := 12) (v := (.agg #[.string ya, .string yb, .int .i64 (j2 : Int)])) (op_at rfl) (by kernel_rfl) (by kernel_rfl) (by kernel_rfl) (fun _ _ _ h => h) (Or.inl ⟨rfl, fun w hSw => ?_⟩) (by assumption) ?_
  · (try dsimp only at hSw); go_simp; try with_reducible rfl
  (try simp only [Act.put, List.setIfInBounds_toArray, List.set_cons_zero, List.set_cons_succ])
  refine wpAnyH_take (i := 13) (v := (.slice (some ⟨b, off, none⟩) 2 cap)) (op_at rfl) (by kernel_rfl) (by kernel_rfl) (by kernel_rfl) (fun _ _ _ h => h) (Or.inl ⟨rfl, fun w hSw => ?_⟩) (by assumption) ?_
  · (try dsimp only at hSw); go_simp; try with_reducible rfl
  (try simp only [Act.put, List.setIfInBounds_toArray, List.set_cons_zero, List.set_cons_succ])
  refine wpAnyH_take (i := 14) (v := (.pointer (some ⟨b, off + 3, none⟩))) (op_at rfl) (by kernel_rfl) (by kernel_rfl) (by kernel_rfl) (fun _ _ _ h => h) (Or.inl ⟨rfl, fun w hSw => ?_⟩) (by assumption) ?_
  · (try dsimp only at hSw); go_simp; try with_reducible rfl
  (try simp only [Act.put, List.setIfInBounds_toArray, List.set_cons_zero, List.set_cons_succ])
  refine wpAnyH_take (i := 15) (v := (.pointer (some ⟨b, off + 3 + 2, none⟩))) (op_at rfl) (by kernel_rfl) (by kernel_rfl) (by kernel_rfl) (fun _ _ _ h => h) (Or.inl ⟨rfl, fun w hSw => ?_⟩) (by assumption) ?_
  · (try dsimp only at hSw); go_simp; try with_reducible rfl
  (try simp only [Act.put, List.setIfInBounds_toArray, List.set_cons_zero, List.set_cons_succ])
  refine wpAnyH_take (i := 16) (v := (.int .i64 (j2 : Int))) (op_at rfl) (by kernel_rfl) (by kernel_rfl) (by kernel_rfl) (fun _ _ _ h => h) (Or.inl ⟨rfl, fun w hSw => ?_⟩) (by assumption) ?_
  · (try dsimp only at hSw); go_simp; try with_reducible rfl
  (try simp only [Act.put, List.setIfInBounds_toArray, List.set_cons_zero, List.set_cons_succ])
  refine wpAnyH_take (i := 17) (v := (.pointer (some ⟨0, j2, none⟩))) (op_at rfl) (by kernel_rfl) (by kernel_rfl) (by kernel_rfl) (fun _ _ _ h => h) (Or.inl ⟨rfl, fun w hSw => ?_⟩) (by assumption) ?_
  · (try dsimp only at hSw); go_simp; try with_reducible rfl
  (try simp only [Act.put, List.setIfInBounds_toArray, List.set_cons_zero, List.set_cons_succ])
  refine wpAnyH_take (i := 18) (v := (.int .i64 k2)) (op_at rfl) (by kernel_rfl) (by kernel_rfl) (by kernel_rfl) (fun _ _ _ h => h) (Or.inl ⟨rfl, fun w hSw => ?_⟩) (by assumption) ?_
  · (try dsimp only at hSw); go_simp; try with_reducible rfl
  (try simp only [Act.put, List.setIfInBounds_toArray, List.set_cons_zero, List.set_cons_succ])
  refine wpAnyH_ready (rs := [9]) (by kernel_rfl) (by simp) (AllReadyH.cons (op_at rfl) (fun K hK => ?_) AllReadyH.nil)
  go_simp
  (refine (HL1.out _).mono ?_; rintro e V1 ⟨rfl, hg⟩; replace gv := Gr.trans gv hg; replace gx := Gr.trans gx hg; replace a0 := Gr.cell hg a0; replace a1 := Gr.cell hg a1; replace a2 := Gr.cell hg a2; replace d0 := Gr.cell hg d0; replace d1 := Gr.cell hg d1; replace d2 := Gr.cell hg d2; replace q1 := Gr.cell hg q1; replace q2 := Gr.cell hg q2; clear hg)
  go_wp2_with fail
  refine hK.out _ _ ⟨a0, a1, a2, d0, d1, d2, q1, q2⟩ (fun hHeld => ?_)
  clear hK K
  (try simp only [Act.put, List.setIfInBounds_toArray, List.set_cons_zero, List.set_cons_succ])
  refine wpAnyH_ready (rs := [19]) (by kernel_rfl) (by simp) (AllReadyH.cons (op_at rfl) (fun K hK => ?_) AllReadyH.nil)
  go_simp
  (refine (HL2.out _).mono ?_; rintro e V2 ⟨rfl, hg⟩; replace gv := Gr.trans gv hg; replace gx := Gr.trans gx hg; replace a0 := Gr.cell hg a0; replace a1 := Gr.cell hg a1; replace a2 := Gr.cell hg a2; replace d0 := Gr.cell hg d0; replace d1 := Gr.cell hg d1; replace d2 := Gr.cell hg d2; replace q1 := Gr.cell hg q1; replace q2 := Gr.cell hg q2; clear hg)
  go_wp2_with fail
  refine hK.out _ _ ⟨a0, a1, a2, d0, d1, d2, q1, q2⟩ (fun hHeld => ?_)
  clear hK K
  (try simp only [Act.put, List.setIfInBounds_toArray, List.set_cons_zero, List.set_cons_succ])
  refine wpAnyH_ready (rs := [20]) (by kernel_rfl) (by simp) (AllReadyH.cons (op_at rfl) (fun K hK => ?_) AllReadyH.nil)
  go_simp
  (refine (HRO.out _).mono ?_; rintro e V4 ⟨rfl, hg⟩; replace gv := Gr.trans gv hg; replace gx := Gr.trans gx hg; replace a0 := Gr.cell hg a0; replace a1 := Gr.cell hg a1; replace a2 := Gr.cell hg a2; replace d0 := Gr.cell hg d0; replace d1 := Gr.cell hg d1; replace d2 := Gr.cell hg d2; replace q1 := Gr.cell hg q1; replace q2 := Gr.cell hg q2; clear hg)
  go_wp2_with fail
  refine hK.out _ _ ⟨a0, a1, a2, d0, d1, d2, q1, q2⟩ (fun hHeld => ?_)
  clear hK K
  (try simp only [Act.put, List.setIfInBounds_toArray, List.set_cons_zero, List.set_cons_succ])
  refine wpAnyH_ready (rs := [21]) (by kernel_rfl) (by simp) (AllReadyH.cons (op_at rfl) (fun K hK => ?_) AllReadyH.nil)
  have tb4 := Gr.block gx TB.out
  obtain ⟨t0, t1, t2⟩ := cells3_of tb4
  have fr : V4.frozen? ⟨w.heap.size, 0, none⟩ = false := frozen_of_row _ _ 0 _ _ tb4
  have fr1 : V4.frozen? ⟨w.heap.size, 1, none⟩ = false := frozen_of_row _ _ 1 _ _ tb4
  have fr2 : V4.frozen? ⟨w.heap.size, 2, none⟩ = false := frozen_of_row _ _ 2 _ _ tb4
  go_simp
  have HU := Lib.hid (store3 (.string l1) (.string l2) (.int .i64 ww) tb4)
  have gu : Gr w (((V4.setCell ⟨w.heap.size, 0, none⟩ (.string l1)).setCell ⟨w.heap.size, 1, none⟩ (.string l2)).setCell ⟨w.heap.size, 2, none⟩ (.int .i64 ww)) := (((show Below w.heap.size w V4 from gv).setCell (p := ⟨w.heap.size, 0, none⟩) (Nat.le_refl _) _).setCell (p := ⟨w.heap.size, 1, none⟩) (Nat.le_refl _) _).setCell (p := ⟨w.heap.size, 2, none⟩) (Nat.le_refl _) _
  generalize (((V4.setCell ⟨w.heap.size, 0, none⟩ (.string l1)).setCell ⟨w.heap.size, 1, none⟩ (.string l2)).setCell ⟨w.heap.size, 2, none⟩ (.int .i64 ww)) = U at *
  refine hK.out _ _ ⟨Gr.cell gu B0.out, Gr.cell gu B1.out, Gr.cell gu B2.out, Gr.cell gu B3.out, Gr.cell gu B4.out, Gr.cell gu B5.out, Gr.cell gu Q1.out, Gr.cell gu Q2.out⟩ (fun hHeld => ?_)
  clear hK K
  refine wpAnyH_take (i := 22) (v := (.int .i64 0)) (op_at rfl) (by kernel_rfl) (by kernel_rfl) (by kernel_rfl) (fun _ _ _ h => h) (Or.inl ⟨rfl, fun w hSw => ?_⟩) (by assumption) ?_
  · (try dsimp only at hSw); go_simp; try with_reducible rfl
  (try simp only [Act.put, List.setIfInBounds_toArray, List.set_cons_zero, List.set_cons_succ])
  refine wpAnyH_done (by kernel_rfl) ?_ _
  go_wp2_with fail
  obtain ⟨z0, z1, z2⟩ := cells3_of HU.out
  exact bodyPost_ret (v := .tuple #[.agg #[.string l1, .string l2, .int .i64 ww], .int .i64 0]) (by simp [results, Tryz.results12, go_sem, z0, z1, z2]) rfl ⟨rfl, gu⟩
end Go.Proofs.YtgjcbiobedhjaaaGreatDoor
