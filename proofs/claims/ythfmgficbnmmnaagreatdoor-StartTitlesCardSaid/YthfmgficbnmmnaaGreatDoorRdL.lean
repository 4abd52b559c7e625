/- Races: Small of both, Next of the program. -/
import Derived.Test.YthfmgficbnmmnaaGreatDoorRdK
import Derived.BigRegion
namespace Go.Proofs.YthfmgficbnmmnaaGreatDoor
open Go.RowKit Go.Lib
set_option linter.unusedSimpArgs false
set_option linter.unusedVariables false
theorem racesE_zero {l : List RaR} (h : racesE l = 0) : (l.length = 1 ∨ (∃ N, l.length = 2 * N ∧ 1 ≤ N ∧ N ≤ 16)) ∧ ∀ (i : Nat) (r : RaR), l[i]? = some r → 0 ≤ r.w ∧ r.w ≤ 3 := by
  unfold racesE at h
  split at h
  · rename_i hm
    refine ⟨?_, fun i r hr => ?_⟩
    · simp only [List.mem_cons, List.not_mem_nil, or_false] at hm
      rcases hm with h1 | h1 | h1 | h1 | h1 | h1
      · exact .inl h1
      · exact .inr ⟨1, by omega, by omega, by omega⟩
      · exact .inr ⟨2, by omega, by omega, by omega⟩
      · exact .inr ⟨4, by omega, by omega, by omega⟩
      · exact .inr ⟨8, by omega, by omega, by omega⟩
      · exact .inr ⟨16, by omega, by omega, by omega⟩
    · have hi := (List.getElem?_eq_some_iff.1 hr).1
      have h0 := errG_zero l.length 0 h (by omega) i r (by omega) (by omega) hr
      unfold raE raE0 at h0
      exact outE_zero.1 (firstE_zero h0 _ (by simp))
  · cases h
/-- the error of Next -/
def nextE (l : List RaR) : Int := firstE [racesE l, if ((l.length : Int) == 1) then 20 else 0, if openR l then 24 else 0]
theorem nextE_zero {l : List RaR} (h : nextE l = 0) : ∃ N, l.length = 2 * N ∧ 1 ≤ N ∧ N ≤ 16 := by
  unfold nextE at h
  have h1 := firstE_zero h (racesE l) (by simp)
  have h2 := firstE_zero h _ (List.mem_cons_of_mem _ (List.mem_cons_self ..))
  rcases (racesE_zero h1).1 with h3 | h3
  · rw [h3] at h2; cases h2
  · exact h3
set_option maxHeartbeats 4000000 in
set_option maxRecDepth 100000 in
theorem next_ok {v : Value} {l : List RaR} {w : World} (h : RaV w v l) (hs : l.length ≤ 34) (he : nextE l = 0) :
    Calls Tryz.prog 22 #[v] w fun e w' => ∃ q N c, e = .returned (.tuple #[.slice q N c, .int .i64 0]) ∧ RaS w' q (pairR (l.map winR)) ∧ (pairR (l.map winR)).length = N ∧ N ≤ 100 ∧ Gr w w' := by
  obtain ⟨N, hN, hN1, hN5⟩ := nextE_zero he
  have HC := Lib.hid (checkRaces_c l v w h hs)
  have HI := Lib.hid (fun V => if_c ((l.length : Int) == 1) 20 V)
  have HD := Lib.hid (fun V (g : Gr w V) => checkDecided_c (h.gr g))
  have HX := Lib.hid (fun V (g : Gr w V) => next_c N (h.gr g) hN hN1 (by omega))
  have HN5 : Hid (N ≤ 100) := by rw [Hid]; omega
  have hz : nextE l = firstE [racesE l, if ((l.length : Int) == 1) then 20 else 0, if openR l then 24 else 0] := rfl
  obtain ⟨⟨p, cap, rfl, _, _⟩⟩ := h
  obtain ⟨z1, hz1⟩ : ∃ z, z = racesE l := ⟨_, rfl⟩
  obtain ⟨z2, hz2⟩ : ∃ z, z = (if ((l.length : Int) == 1) then (20 : Int) else 0) := ⟨_, rfl⟩
  obtain ⟨z3, hz3⟩ : ∃ z, z = (if openR l then (24 : Int) else 0) := ⟨_, rfl⟩
  rw [← hz1, ← hz2, ← hz3] at hz
  rw [← hz1] at HC
  rw [← hz2] at HI
  rw [← hz3] at HD
  have HF : Hid (∀ b cap V, V.cell? ⟨b, 0, none⟩ = some (.int .i64 z1) → V.cell? ⟨b, 1, none⟩ = some (.int .i64 z2) → V.cell? ⟨b, 2, none⟩ = some (.int .i64 z3) → Calls Tryz.prog 41 #[.slice (some ⟨b, 0, none⟩) 3 cap] V fun e w' => e = .returned (.int .i64 0) ∧ V = w') := fun b cap V h0 h1 h2 => by rw [← he, hz]; exact first_three z1 z2 z3 b cap V h0 h1 h2
  clear hz1 hz2 hz3 hz hs he hN hN1 hN5
  generalize pairR (l.map winR) = res at *
  generalize l.length = n at *
  go_enter Tryz.func22, Tryz.ntmps22
  go_wp2_with fail
  refine (HC.out.mono ?_)
  rintro e W1 ⟨rfl, g1⟩
  have GA := Lib.hid g1
  go_wp2_with fail
  refine (HI.out _).mono ?_
  rintro e W2 ⟨rfl, rfl⟩
  go_wp2_with fail
  refine (HD.out _ GA.out).mono ?_
  rintro e W3 ⟨rfl, g3⟩
  have GB := Lib.hid (GA.out.trans g3)
  obtain ⟨W4, hW4, g4, s0, s1, s2⟩ := box3 W3 (.int .i64 z1) (.int .i64 z2) (.int .i64 z3) 31
  have HF1 := Lib.hid (HF.out _ 3 W4 s0 s1 s2)
  have HW4 := Lib.hid hW4
  have GC := Lib.hid (GB.out.trans g4)
  clear hW4 g1 g3 g4 s0 s1 s2
  go_wp2_with fail
  rw [HW4.out]
  refine HF1.out.mono ?_
  rintro e W5 ⟨rfl, rfl⟩
  go_wp2_with fail
  refine (HX.out _ GC.out).mono ?_
  rintro e W6 ⟨q, c, rfl, hr, hl, g6⟩
  have HR6 := Lib.hid hr
  have HL6 := Lib.hid hl
  have G6 := Lib.hid (GC.out.trans g6)
  clear hr hl g6
  go_wp2_with fail
  exact bodyPost_ret (v := .tuple #[.slice q N c, .int .i64 0]) (by simp [results, Tryz.results22, go_sem]) rfl ⟨q, N, c, rfl, HR6.out, HL6.out, HN5.out, G6.out⟩

/-- the table of the lanes of those who have lost -/
structure Beat (w : World) : Prop where
  mk' ::
  out : w.cell? ⟨0, 0, none⟩ = some (.int .i64 0) ∧ w.cell? ⟨0, 1, none⟩ = some (.int .i64 2) ∧ w.cell? ⟨0, 2, none⟩ = some (.int .i64 1) ∧ w.cell? ⟨0, 3, none⟩ = some (.int .i64 0)
theorem Beat.gr {w w' : World} (h : Beat w) (k : Gr w w') : Beat w' := ⟨k.cell h.out.1, k.cell h.out.2.1, k.cell h.out.2.2.1, k.cell h.out.2.2.2⟩
theorem Beat.at {w : World} (h : Beat w) {z : Int} (h0 : 0 ≤ z) (h3 : z ≤ 3) : ∃ (j : Nat) (k : Int), z = (j : Int) ∧ j < 4 ∧ w.cell? ⟨0, j, none⟩ = some (.int .i64 k) ∧ ((j = 0 ∧ k = 0) ∨ (j = 1 ∧ k = 2) ∨ (j = 2 ∧ k = 1) ∨ (j = 3 ∧ k = 0)) := by
  obtain ⟨⟨c0, c1, c2, c3⟩⟩ := h
  obtain ⟨j, rfl⟩ : ∃ j : Nat, z = (j : Int) := ⟨z.toNat, by omega⟩
  have hj : j = 0 ∨ j = 1 ∨ j = 2 ∨ j = 3 := by omega
  rcases hj with rfl | rfl | rfl | rfl
  · exact ⟨0, 0, rfl, by omega, c0, .inl ⟨rfl, rfl⟩⟩
  · exact ⟨1, 2, rfl, by omega, c1, .inr (.inl ⟨rfl, rfl⟩)⟩
  · exact ⟨2, 1, rfl, by omega, c2, .inr (.inr (.inl ⟨rfl, rfl⟩))⟩
  · exact ⟨3, 0, rfl, by omega, c3, .inr (.inr (.inr ⟨rfl, rfl⟩))⟩
end Go.Proofs.YthfmgficbnmmnaaGreatDoor
