/- Juries: who has which posts, and at the same hour. -/
import Derived.Test.YtjojbcgppkfidaaGreatJuF
namespace Go.Proofs.YtjojbcgppkfidaaGreat
open Go.RowKit Go.Lib
set_option linter.unusedSimpArgs false
set_option linter.unusedVariables false
def intJ (zs : List Int) : List Value := zs.map fun z => .int .i64 z
theorem intJ_app (a b : List Int) : intJ (a ++ b) = intJ a ++ intJ b := List.map_append
theorem intJ_len (a : List Int) : (intJ a).length = a.length := List.length_map _
theorem infoJ : (Tryz.prog.info? 3).map (fun i => (i.zero, i.size, i.bytes)) = some (some (.int .i64 0), 1, 8) := by kernel_rfl
/-- the places of a value -/
def posI (o : Int) : List Int → Nat → List Int
  | [], _ => []
  | x :: l, k => if x = o then (k : Int) :: posI o l (k + 1) else posI o l (k + 1)
theorem posI_add (o x : Int) : ∀ (l : List Int) (k : Nat), posI o (l ++ [x]) k = posI o l k ++ if x = o then [((k + l.length : Nat) : Int)] else []
  | [], k => by
    by_cases h : x = o <;> simp [posI, h]
  | y :: l, k => by
    have ih := posI_add o x l (k + 1)
    by_cases h : y = o
    · simp only [List.cons_append, posI, h, if_true, ih, List.length_cons]
      rw [show k + 1 + l.length = k + (l.length + 1) by omega]
    · simp only [List.cons_append, posI, h, if_false, ih, List.length_cons]
      rw [show k + 1 + l.length = k + (l.length + 1) by omega]
theorem posI_take (o : Int) {xs : List Int} {i : Nat} {x : Int} (h : xs[i]? = some x) : posI o (xs.take (i + 1)) 0 = posI o (xs.take i) 0 ++ if x = o then [(i : Int)] else [] := by
  have hi := (List.getElem?_eq_some_iff.1 h).1
  rw [List.take_add_one, h, Option.toList_some, posI_add, List.length_take, Nat.zero_add, Nat.min_eq_left (by omega)]
theorem posI_le (o : Int) : ∀ (l : List Int) (k : Nat), (posI o l k).length ≤ l.length
  | [], _ => Nat.le_refl _
  | y :: l, k => by
    have := posI_le o l (k + 1)
    unfold posI
    split <;> simp <;> omega
theorem posI_mem (o : Int) : ∀ {l : List Int} {k : Nat} {z : Int}, z ∈ posI o l k → ∃ j : Nat, z = ((k + j : Nat) : Int) ∧ l[j]? = some o
  | [], _, _, h => by cases h
  | y :: l, k, z, h => by
    unfold posI at h
    split at h
    · rename_i hy
      rcases List.mem_cons.1 h with rfl | h
      · exact ⟨0, by simp, by simp [hy]⟩
      · obtain ⟨j, rfl, hj⟩ := posI_mem o h
        exact ⟨j + 1, by omega, by simpa using hj⟩
    · obtain ⟨j, rfl, hj⟩ := posI_mem o h
      exact ⟨j + 1, by omega, by simpa using hj⟩
set_option maxHeartbeats 1000000 in
set_option maxRecDepth 100000 in
theorem postsBy_c (xs : List Int) (n : Nat) (p : Option Addr) (cap : Nat) (o : Int) (w : World) (hn : xs.length = n) (h1 : n ≤ 1000)
    (hd : 0 < n → ∃ b off, p = some ⟨b, off, none⟩ ∧ ∀ i y, xs[i]? = some y → w.cell? ⟨b, off + i, none⟩ = some (.int .i64 y)) :
    Calls Tryz.prog 90 #[.slice p n cap, .int .i64 o] w fun e w' => ∃ v, e = .returned v ∧ w'.ownsRow w.heap.size 3 1 v (posI o xs 0).length (intJ (posI o xs 0)) ∧ Gr w w' := by
  obtain ⟨i0, hi, hz0, hz1, hz2⟩ := info_parts infoJ
  have HD := Lib.hid hd
  have HN := Lib.hid hn
  clear hd hn
  go_enter Tryz.func90, Tryz.ntmps90
  go_wp2_with fail
  go_loopw [5, 6, 7, 10] (fun v s6 s7 i wr => ∃ k : Nat, k ≤ n ∧ i = .int .i64 k ∧ wr.ownsRow w.heap.size 3 1 v (posI o (xs.take k) 0).length (intJ (posI o (xs.take k) 0)) ∧ Gr w wr) (fun _ _ _ i _ => n - (intOf i).toNat)
  case atStart => exact ⟨0, Nat.zero_le _, rfl, World.ownsRow_nil _ _ _ _, Gr.refl _⟩
  case round =>
    obtain ⟨k, hk, rfl, hown, hnx⟩ := hrel
    have hsize := hnx.size
    by_cases hkN : k < n
    · obtain ⟨x, hx⟩ : ∃ x, xs[k]? = some x := ⟨xs[k]'(by have := HN.out; omega), List.getElem?_eq_getElem _⟩
      obtain ⟨b, off, rfl, hd⟩ := HD.out (by omega)
      have c0 := hnx.cell (hd k x hx)
      have HQ := Lib.hid (posI_take o hx)
      have hle := posI_le o (xs.take k) 0
      have hlen := intJ_len (posI o (xs.take k) 0)
      have hlt : (posI o (xs.take k) 0).length ≤ 1000 := by rw [List.length_take] at hle; omega
      have hi2 : (k : Int) < n := by omega
      generalize posI o (xs.take k) 0 = L at *
      clear hle hx hd
      by_cases hxo : x = o
      · have q1 : (x == o) = true := by simpa using hxo
        have HQ2 : Hid (posI o (xs.take (k + 1)) 0 = L ++ [(k : Int)]) := by rw [Hid, HQ.out, if_pos hxo]
        clear hxo
        have HOW := Lib.hid hown
        have HLN := Lib.hid hlen
        obtain ⟨z, hz⟩ : ∃ z, z = L.length := ⟨_, rfl⟩
        rw [← hz] at hown hlen hlt
        have HZ := Lib.hid hz
        clear hz
        go_wp2_with (first
          | (at_builtin; refine wpList_append_own _ rfl _ _ 26 rfl w.heap.size 3 i0 (.int .i64 0) 1 8 Tryz.underlying26 hi hz0 hz1 hz2 rfl (by decide) _ _ _ rfl (hown.alloc _) ⟨wr.heap.size, 0, none⟩ 1 1 [.int .i64 (k : Int)] rfl rfl (by intro j u hu; match j, hu with | 0, hu => (simp at hu; subst hu; exact cell_new wr #[.int .i64 (k : Int)] 3 0 (by simp)) | j + 1, hu => (simp at hu)) (by intro u hu; simp at hu; subst hu; rfl) (by unfold maxLen; omega) (by omega) (by simp; omega) ?_; intro v1 w1 hown1 hgrow1 hnil1))
        go_roundw
        case rel =>
          exact ⟨k + 1, by omega, by go_num, by rw [HQ2.out, List.length_append, ← HZ.out, intJ_app]; exact hown1, Below.grown (hnx.alloc _) hgrow1 (by simp; omega) (fun j hj => (HOW.out.lt j hj).1)⟩
        case measure => simp [intOf]; omega
      · have q1 : (x == o) = false := by simpa using hxo
        have HQ2 : Hid (posI o (xs.take (k + 1)) 0 = L) := by rw [Hid, HQ.out, if_neg hxo, List.append_nil]
        clear hxo
        go_wp2_with fail
        go_roundw
        case rel => exact ⟨k + 1, by omega, by go_num, by rw [HQ2.out]; exact hown, hnx⟩
        case measure => simp [intOf]; omega
    · obtain rfl : k = n := by omega
      have hi2 : (k : Int) ≤ k := by omega
      rw [List.take_of_length_le (by have := HN.out; omega)] at hown
      go_wp2_with fail
      go_ret
      exact ⟨_, rfl, hown, hnx⟩
/-- whether two posts are at the same hour -/
def sameH (ps : List PoR) (k : Nat) (z : Int) : Bool := match ps[z.toNat]?, ps[k]? with | some x, some y => x.hr == y.hr | _, _ => false
theorem sameH_at {ps : List PoR} {k j : Nat} {x y : PoR} (hx : ps[j]? = some x) (hy : ps[k]? = some y) : sameH ps k (j : Int) = (x.hr == y.hr) := by
  unfold sameH
  rw [Int.toNat_natCast, hx, hy]
set_option maxHeartbeats 1000000 in
set_option maxRecDepth 100000 in
theorem sameHr_c (ps : List PoR) (n bp op cp B C j k : Nat) (x y : PoR) (w : World) (hn : ps.length = n) (hx : ps[j]? = some x) (hy : ps[k]? = some y)
    (hc : ∀ i x, ps[i]? = some x → PoAt w bp (op + i * 4) x) (hB : w.cell? ⟨B, 1, none⟩ = some (.slice (some ⟨bp, op, none⟩) n cp)) (hK : w.cell? ⟨C, 0, none⟩ = some (.int .i64 (k : Int))) :
    Calls Tryz.prog 89 #[.int .i64 (j : Int), .pointer (some ⟨B, 0, none⟩), .pointer (some ⟨C, 0, none⟩)] w fun e w' => e = .returned (.bool (sameH ps k (j : Int))) ∧ Gr w w' := by
  rw [sameH_at hx hy]
  have hj1 := (List.getElem?_eq_some_iff.1 hx).1
  have hk1 := (List.getElem?_eq_some_iff.1 hy).1
  have y0 := (hc j x hx).hr
  have y1 := (hc k y hy).hr
  rw [hn] at hj1 hk1
  have g := (Gr.refl w).drew
  replace hB := g.cell hB
  replace hK := g.cell hK
  replace y0 := g.cell y0
  replace y1 := g.cell y1
  clear hx hy hc hn
  go_enter Tryz.func89, Tryz.ntmps89
  go_wp2_with fail
  refine wp_region_held_drew (S := (fun w' => w'.cell? ⟨B, 1, none⟩ = some (.slice (some ⟨bp, op, none⟩) n cp) ∧ w'.cell? ⟨C, 0, none⟩ = some (.int .i64 (k : Int)) ∧ w'.cell? ⟨bp, op + j * 4 + 2, none⟩ = some (.int .i64 x.hr) ∧ w'.cell? ⟨bp, op + k * 4 + 2, none⟩ = some (.int .i64 y.hr))) (by kernel_rfl) ⟨hB, hK, y0, y1⟩ (fun hHeld => ?_)
  generalize w.drew = V at *
  refine wpAnyH_take (i := 0) (v := (.pointer (some ⟨B, 1, none⟩))) (op_at rfl) (by kernel_rfl) (by kernel_rfl) (by kernel_rfl) (fun _ _ _ h => h) (Or.inl ⟨rfl, fun w hSw => ?_⟩) (by assumption) ?_
  · (try dsimp only at hSw); go_simp; try with_reducible rfl
  (try simp only [Act.put, List.setIfInBounds_toArray, List.set_cons_zero, List.set_cons_succ])
  refine wpAnyH_take (i := 1) (v := (.slice (some ⟨bp, op, none⟩) n cp)) (op_at rfl) (by kernel_rfl) (by kernel_rfl) (by kernel_rfl) (fun _ _ _ h => h) (Or.inl ⟨rfl, fun w hSw => ?_⟩) (by assumption) ?_
  · (try dsimp only at hSw); go_simp; try with_reducible rfl
  (try simp only [Act.put, List.setIfInBounds_toArray, List.set_cons_zero, List.set_cons_succ])
  refine wpAnyH_take (i := 2) (v := (.int .i64 (j : Int))) (op_at rfl) (by kernel_rfl) (by kernel_rfl) (by kernel_rfl) (fun _ _ _ h => h) (Or.inl ⟨rfl, fun w hSw => ?_⟩) (by assumption) ?_
  · (try dsimp only at hSw); go_simp; try with_reducible rfl
  (try simp only [Act.put, List.setIfInBounds_toArray, List.set_cons_zero, List.set_cons_succ])
  refine wpAnyH_take (i := 3) (v := (.pointer (some ⟨bp, op + j * 4, none⟩))) (op_at rfl) (by kernel_rfl) (by kernel_rfl) (by kernel_rfl) (fun _ _ _ h => h) (Or.inl ⟨rfl, fun w hSw => ?_⟩) (by assumption) ?_
  · (try dsimp only at hSw); go_simp; try with_reducible rfl
  (try simp only [Act.put, List.setIfInBounds_toArray, List.set_cons_zero, List.set_cons_succ])
  refine wpAnyH_take (i := 4) (v := (.pointer (some ⟨bp, op + j * 4 + 2, none⟩))) (op_at rfl) (by kernel_rfl) (by kernel_rfl) (by kernel_rfl) (fun _ _ _ h => h) (Or.inl ⟨rfl, fun w hSw => ?_⟩) (by assumption) ?_
  · (try dsimp only at hSw); go_simp; try with_reducible rfl
  (try simp only [Act.put, List.setIfInBounds_toArray, List.set_cons_zero, List.set_cons_succ])
  refine wpAnyH_take (i := 5) (v := (.int .i64 x.hr)) (op_at rfl) (by kernel_rfl) (by kernel_rfl) (by kernel_rfl) (fun _ _ _ h => h) (Or.inl ⟨rfl, fun w hSw => ?_⟩) (by assumption) ?_
  · (try dsimp only at hSw); go_simp; try with_reducible rfl
  (try simp only [Act.put, List.setIfInBounds_toArray, List.set_cons_zero, List.set_cons_succ])
  refine wpAnyH_take (i := 6) (v := (.pointer (some ⟨B, 1, none⟩))) (op_at rfl) (by kernel_rfl) (by kernel_rfl) (by kernel_rfl) (fun _ _ _ h => h) (Or.inl ⟨rfl, fun w hSw => ?_⟩) (by assumption) ?_
  · (try dsimp only at hSw); go_simp; try with_reducible rfl
  (try simp only [Act.put, List.setIfInBounds_toArray, List.set_cons_zero, List.set_cons_succ])
  refine wpAnyH_take (i := 7) (v := (.slice (some ⟨bp, op, none⟩) n cp)) (op_at rfl) (by kernel_rfl) (by kernel_rfl) (by kernel_rfl) (fun _ _ _ h => h) (Or.inl ⟨rfl, fun w hSw => ?_⟩) (by assumption) ?_
  · (try dsimp only at hSw); go_simp; try with_reducible rfl
  (try simp only [Act.put, List.setIfInBounds_toArray, List.set_cons_zero, List.set_cons_succ])
  refine wpAnyH_take (i := 8) (v := (.int .i64 (k : Int))) (op_at rfl) (by kernel_rfl) (by kernel_rfl) (by kernel_rfl) (fun _ _ _ h => h) (Or.inl ⟨rfl, fun w hSw => ?_⟩) (by assumption) ?_
  · (try dsimp only at hSw); go_simp; try with_reducible rfl
  (try simp only [Act.put, List.setIfInBounds_toArray, List.set_cons_zero, List.set_cons_succ])
  refine wpAnyH_take (i := 9) (v := (.pointer (some ⟨bp, op + k * 4, none⟩))) (op_at rfl) (by kernel_rfl) (by kernel_rfl) (by kernel_rfl) (fun _ _ _ h => h) (Or.inl ⟨rfl, fun w hSw => ?_⟩) (by assumption) ?_
  · (try dsimp only at hSw); go_simp; try with_reducible rfl
  (try simp only [Act.put, List.setIfInBounds_toArray, List.set_cons_zero, List.set_cons_succ])
  refine wpAnyH_take (i := 10) (v := (.pointer (some ⟨bp, op + k * 4 + 2, none⟩))) (op_at rfl) (by kernel_rfl) (by kernel_rfl) (by kernel_rfl) (fun _ _ _ h => h) (Or.inl ⟨rfl, fun w hSw => ?_⟩) (by assumption) ?_
  · (try dsimp only at hSw); go_simp; try with_reducible rfl
  (try simp only [Act.put, List.setIfInBounds_toArray, List.set_cons_zero, List.set_cons_succ])
  refine wpAnyH_take (i := 11) (v := (.int .i64 y.hr)) (op_at rfl) (by kernel_rfl) (by kernel_rfl) (by kernel_rfl) (fun _ _ _ h => h) (Or.inl ⟨rfl, fun w hSw => ?_⟩) (by assumption) ?_
  · (try dsimp only at hSw); go_simp; try with_reducible rfl
  (try simp only [Act.put, List.setIfInBounds_toArray, List.set_cons_zero, List.set_cons_succ])
  refine wpAnyH_take (i := 12) (v := (.bool (x.hr == y.hr))) (op_at rfl) (by kernel_rfl) (by kernel_rfl) (by kernel_rfl) (fun _ _ _ h => h) (Or.inl ⟨rfl, fun w hSw => ?_⟩) (by assumption) ?_
  · (try dsimp only at hSw); go_simp; try with_reducible rfl
  (try simp only [Act.put, List.setIfInBounds_toArray, List.set_cons_zero, List.set_cons_succ])
  refine wpAnyH_take (i := 13) (v := (.bool (x.hr == y.hr))) (op_at rfl) (by kernel_rfl) (by kernel_rfl) (by kernel_rfl) (fun _ _ _ h => h) (Or.inl ⟨rfl, fun w hSw => ?_⟩) (by assumption) ?_
  · (try dsimp only at hSw); go_simp; try with_reducible rfl
  (try simp only [Act.put, List.setIfInBounds_toArray, List.set_cons_zero, List.set_cons_succ])
  refine wpAnyH_done (by kernel_rfl) ?_ _
  go_wp2_with fail
  go_ret
  exact ⟨rfl, g⟩
set_option maxHeartbeats 1000000 in
set_option maxRecDepth 100000 in
theorem indexJ_c (Q : Int → Bool) (zs : List Int) (n : Nat) (p : Option Addr) (cap B C : Nat) (w : World) (hn : zs.length = n) (h1 : n ≤ 1000)
    (hd : 0 < n → ∃ b off, p = some ⟨b, off, none⟩ ∧ ∀ i z, zs[i]? = some z → w.cell? ⟨b, off + i, none⟩ = some (.int .i64 z))
    (hE : ∀ z W, z ∈ zs → Gr w W → Calls Tryz.prog 89 #[.int .i64 z, .pointer (some ⟨B, 0, none⟩), .pointer (some ⟨C, 0, none⟩)] W fun e w' => e = .returned (.bool (Q z)) ∧ Gr W w') :
    Calls Tryz.prog 120 #[.slice p n cap, .func (.func 89) #[] #[.pointer (some ⟨B, 0, none⟩), .pointer (some ⟨C, 0, none⟩)]] w fun e w' => e = .returned (.int .i64 (idxQ Q zs n 0)) ∧ Gr w w' := by
  have HD := Lib.hid hd
  have HN := Lib.hid hn
  have HO := Lib.hid hE
  have HE : Hid (idxQ Q zs n 0 = idxQ Q zs (n - 0) 0) := rfl
  clear hd hn hE
  go_enter Tryz.func120, Tryz.ntmps120
  go_wp2_with fail
  go_loopg [8] n (fun gk s8 wr => ∃ i : Nat, s8 = .int .i64 i ∧ gk + i = n ∧ Gr w wr ∧ Hid (idxQ Q zs (n - i) i = idxQ Q zs (n - 0) 0))
  case atStart => exact ⟨0, rfl, by omega, Gr.refl _, rfl⟩
  case round =>
    obtain ⟨i, rfl, hi, hg, HF⟩ := hrel
    by_cases hlt : i < n
    · obtain ⟨x, hx⟩ : ∃ x, zs[i]? = some x := ⟨zs[i]'(by have := HN.out; omega), List.getElem?_eq_getElem _⟩
      obtain ⟨b, off, rfl, hd⟩ := HD.out (by omega)
      have c0 := hg.cell (hd i x hx)
      have hf := idxQ_step (Q := Q) hx hlt
      have hi2 : (i : Int) < n := by omega
      have HT := Lib.hid (HO.out x wr (List.mem_of_getElem? hx) hg)
      clear hx hd
      cases e1 : Q x
      · rw [e1] at hf HT
        simp only [Bool.false_eq_true, if_false] at hf
        have HF2 := Lib.hid hf
        clear hf e1
        go_wp2_with (refine HT.out.mono ?_; rintro e w4 ⟨rfl, hg2⟩)
        go_roundg (gk - 1)
        case measure => omega
        case rel => exact ⟨i + 1, by go_num, by omega, hg.trans hg2, by unfold Hid; rw [← HF2.out, HF.out]⟩
      · rw [e1] at hf HT
        simp only [if_true] at hf
        have HF2 := Lib.hid hf
        clear hf e1
        go_wp2_with (refine HT.out.mono ?_; rintro e w4 ⟨rfl, hg2⟩)
        go_ret
        exact ⟨by rw [HE.out, ← HF.out, HF2.out]; rfl, hg.trans hg2⟩
    · have HE2 := Lib.hid (idxQ_end (Q := Q) (xs := zs) (i := i) (n := n) (by omega))
      have hi2 : (n : Int) ≤ i := by omega
      go_wp2_with fail
      go_ret
      exact ⟨by rw [HE.out, ← HF.out, HE2.out]; rfl, hg⟩
set_option maxHeartbeats 1000000 in
set_option maxRecDepth 100000 in
theorem containsJ_c (Q : Int → Bool) (zs : List Int) (n : Nat) (p : Option Addr) (cap B C : Nat) (w : World) (hn : zs.length = n) (h1 : n ≤ 1000)
    (hd : 0 < n → ∃ b off, p = some ⟨b, off, none⟩ ∧ ∀ i z, zs[i]? = some z → w.cell? ⟨b, off + i, none⟩ = some (.int .i64 z))
    (hE : ∀ z W, z ∈ zs → Gr w W → Calls Tryz.prog 89 #[.int .i64 z, .pointer (some ⟨B, 0, none⟩), .pointer (some ⟨C, 0, none⟩)] W fun e w' => e = .returned (.bool (Q z)) ∧ Gr W w') :
    Calls Tryz.prog 91 #[.slice p n cap, .func (.func 89) #[] #[.pointer (some ⟨B, 0, none⟩), .pointer (some ⟨C, 0, none⟩)]] w fun e w' => e = .returned (.bool (zs.any Q)) ∧ Gr w w' := by
  have HI := Lib.hid (indexJ_c Q zs n p cap B C w hn h1 hd hE)
  have HE : Hid (zs.any Q = decide (0 ≤ idxQ Q zs n 0)) := by
    unfold Hid
    rw [idxQ_any Q zs n 0 (by omega), List.drop_zero, List.take_of_length_le (by omega)]
  clear hd hE
  generalize idxQ Q zs n 0 = z at *
  go_enter Tryz.func91, Tryz.ntmps91
  go_wp2_with fail
  refine HI.out.mono ?_
  rintro e w4 ⟨rfl, hg⟩
  go_wp2_with fail
  go_ret
  exact ⟨by rw [HE.out]; rfl, hg⟩
end Go.Proofs.YtjojbcgppkfidaaGreat
namespace Go.Proofs.YtjojbcgppkfidaaGreat
open Go.RowKit Go.Lib
set_option linter.unusedSimpArgs false
set_option linter.unusedVariables false
/-- the slice v reads as the integers xs, within its capacity -/
structure IntsC (w : World) (v : Value) (xs : List Int) : Prop where
  mk' ::
  out : ∃ p cap, v = .slice p xs.length cap ∧ (xs.length ≤ cap ∧ cap ≤ maxLen) ∧ (0 < xs.length → ∃ b off, p = some ⟨b, off, none⟩ ∧ ∀ i x, xs[i]? = some x → w.cell? ⟨b, off + i, none⟩ = some (.int .i64 x))
theorem IntsC.gr {w w' : World} {v : Value} {xs : List Int} (h : IntsC w v xs) (k : Gr w w') : IntsC w' v xs := by
  obtain ⟨⟨p, cap, rfl, hcap, hh⟩⟩ := h
  refine ⟨p, cap, rfl, hcap, fun h0 => ?_⟩
  obtain ⟨b, off, h1, h2⟩ := hh h0
  exact ⟨b, off, h1, fun i x hx => k.cell (h2 i x hx)⟩
theorem own_sliceJ {w : World} {b s n : Nat} {T : TypeId} {v : Value} {l : List Value} (h : w.ownsRow b T s v n l) : ∃ p c, v = .slice p n c := by
  rcases h.2 with ⟨rfl, h0⟩ | ⟨g, cap, cur, rfl, _⟩
  · exact ⟨none, 0, by rw [h0]⟩
  · exact ⟨_, cap, rfl⟩
theorem own_cellsJ {w : World} {b n m c : Nat} {p : Option Addr} {zs : List Int} (h : w.ownsRow b 3 1 (.slice p n c) m (intJ zs)) (hn : m = zs.length) : 0 < m → ∃ g off, p = some ⟨g, off, none⟩ ∧ ∀ i z, zs[i]? = some z → w.cell? ⟨g, off + i, none⟩ = some (.int .i64 z) := by
  intro h0
  rcases h.2 with ⟨e, h1⟩ | ⟨g, cap, cur, e, _⟩
  · omega
  · simp only [Value.slice.injEq] at e
    obtain ⟨rfl, -, -⟩ := e
    refine ⟨g, 0, rfl, fun i z hz => ?_⟩
    have e : (⟨g, 0, none⟩ : Addr).add i = ⟨g, i, none⟩ := by unfold Addr.add; split <;> simp_all
    have := h.cells (g := g) rfl i (.int .i64 z) (by unfold intJ; rw [List.getElem?_map, hz]; rfl)
    rw [e] at this
    rw [Nat.zero_add]
    exact this
/-- the error of the official of a post -/
def offE (os : List OfR) (ps : List PoR) (k : Nat) (o : Int) : Int := if o = -1 then 0 else if noneE os.length o = 0 then (match os[o.toNat]?, ps[k]? with | some x, some y => if (!mayB x y) then 18 else 0 | _, _ => 0) else noneE os.length o
/-- the load of an official -/
def loadO (os : List OfR) (o : Int) : Int := match os[o.toNat]? with | some x => x.ld | none => 0
/-- the error of the posts of an official, up to a post -/
def uptoE (os : List OfR) (ps : List PoR) (a : List Int) (k : Nat) (o : Int) : Int := if o = -1 then 0 else firstE [if (posI o (a.take k) 0).any (sameH ps k) then 9 else 0, if decide (loadO os o ≤ ((posI o (a.take k) 0).length : Int)) then 5 else 0]
/-- the error of an appointment of a jury -/
def appE (os : List OfR) (ps : List PoR) (a : List Int) : Int := firstE [firstE [juryE os ps, if ((a.length : Int) != (ps.length : Int)) then 2 else 0], eachI (offE os ps) a 0, eachI (uptoE os ps a) a 0]
set_option maxHeartbeats 1000000 in
set_option maxRecDepth 100000 in
theorem offOf_c (os : List OfR) (ps : List PoR) (vo vp : Value) (k : Nat) (o : Int) (w : World) (ho : OfAts w vo os) (hp : PoAts w vp ps) (hk : k < ps.length) (hr : ∀ x ∈ os, x.rs.length ≤ 1000) (hs : ∀ y ∈ ps, y.ns.length ≤ 1000) (hl1 : os.length ≤ 1000) (hl2 : ps.length ≤ 1000) :
    Calls Tryz.prog 49 #[.agg #[vo, vp], .int .i64 (k : Int), .int .i64 o] w fun e w' => e = .returned (.int .i64 (offE os ps k o)) ∧ Gr w w' := by
  obtain ⟨⟨po, co, rfl, hco, hho⟩⟩ := ho
  obtain ⟨⟨pp, cp, rfl, hcp, hhp⟩⟩ := hp
  obtain ⟨W, hW, g, a0, a1⟩ := box2 w (.slice po os.length co) (.slice pp ps.length cp) 25
  have HW := Lib.hid hW
  clear hW
  by_cases hm : o = -1
  · subst hm
    have hz : offE os ps k (-1) = 0 := rfl
    rw [hz]
    clear hho hhp hr hs hz a0 a1 hk hl1 hl2 hco hcp
    go_enter Tryz.func49, Tryz.ntmps49
    go_wp2_with fail
    rw [HW.out]
    go_ret
    exact ⟨rfl, g⟩
  have q0 : (o == -1) = false := by simpa using hm
  have H1 := Lib.hid (fun W => oneOfO_c po os.length co o W)
  by_cases hz : noneE os.length o = 0
  · obtain ⟨j1, j2⟩ := noneE_zero hz
    obtain ⟨i, rfl⟩ : ∃ i : Nat, o = (i : Int) := ⟨o.toNat, by omega⟩
    have hi : i < os.length := by omega
    obtain ⟨x, hx⟩ : ∃ x, os[i]? = some x := ⟨_, List.getElem?_eq_getElem hi⟩
    obtain ⟨y, hy⟩ : ∃ y, ps[k]? = some y := ⟨_, List.getElem?_eq_getElem hk⟩
    obtain ⟨bo, oo, rfl, hqo⟩ := hho (by omega)
    obtain ⟨bp, op, rfl, hqp⟩ := hhp (by omega)
    rw [hz] at H1
    obtain ⟨x0, x1, x2, x3, hxs⟩ := hqo i x hx
    obtain ⟨y0, y1, y2, y3, hys⟩ := hqp k y hy
    have hrx := hr x (List.mem_of_getElem? hx)
    have hsy := hs y (List.mem_of_getElem? hy)
    have HM : Hid (∀ W, Gr w W → Calls Tryz.prog 44 #[.agg #[.string x.nm, .string x.na, x.u, .int .i64 x.ld], .agg #[.string y.nm, .string y.ro, .int .i64 y.hr, y.u]] W fun e w' => e = .returned (.bool (mayB x y)) ∧ Gr W w') := fun W g => mayHave_c x y W (hxs.gr g) (hys.gr g) hrx hsy
    have hE : offE os ps k (i : Int) = if (!mayB x y) then 18 else 0 := by
      unfold offE
      rw [if_neg hm, if_pos hz, Int.toNat_natCast, hx, hy]
    rw [hE]
    generalize mayB x y = rr at *
    obtain ⟨er, her, H2⟩ := if_e (!rr) 18
    rw [← her]
    replace H2 := Lib.hid H2
    replace x0 := g.cell x0
    replace x1 := g.cell x1
    replace x2 := g.cell x2
    replace x3 := g.cell x3
    replace y0 := g.cell y0
    replace y1 := g.cell y1
    replace y2 := g.cell y2
    replace y3 := g.cell y3
    clear hE hho hhp hqo hqp hx hy hxs hys hr hs hrx hsy hco hcp hm hz j1 j2 her
    go_enter Tryz.func49, Tryz.ntmps49
    go_wp2_with fail
    rw [HW.out]
    generalize w.heap.size = Bx at *
    clear HW
    refine (H1.out _).mono ?_
    rintro e w' ⟨rfl, rfl⟩
    go_wp2_with fail
    have gd := (Gr.refl W).drew
    replace a0 := gd.cell a0
    replace a1 := gd.cell a1
    replace x0 := gd.cell x0
    replace x1 := gd.cell x1
    replace x2 := gd.cell x2
    replace x3 := gd.cell x3
    replace y0 := gd.cell y0
    replace y1 := gd.cell y1
    replace y2 := gd.cell y2
    replace y3 := gd.cell y3
    replace g := g.trans gd
    clear gd
    refine wp_region_held_drew (S := (fun w' => w'.cell? ⟨Bx, 0, none⟩ = some (.slice (some ⟨bo, oo, none⟩) os.length co) ∧ w'.cell? ⟨Bx, 1, none⟩ = some (.slice (some ⟨bp, op, none⟩) ps.length cp) ∧ w'.cell? ⟨bo, oo + i * 4, none⟩ = some (.string x.nm) ∧ w'.cell? ⟨bo, oo + i * 4 + 1, none⟩ = some (.string x.na) ∧ w'.cell? ⟨bo, oo + i * 4 + 2, none⟩ = some x.u ∧ w'.cell? ⟨bo, oo + i * 4 + 3, none⟩ = some (.int .i64 x.ld) ∧ w'.cell? ⟨bp, op + k * 4, none⟩ = some (.string y.nm) ∧ w'.cell? ⟨bp, op + k * 4 + 1, none⟩ = some (.string y.ro) ∧ w'.cell? ⟨bp, op + k * 4 + 2, none⟩ = some (.int .i64 y.hr) ∧ w'.cell? ⟨bp, op + k * 4 + 3, none⟩ = some y.u)) (by kernel_rfl) ⟨a0, a1, x0, x1, x2, x3, y0, y1, y2, y3⟩ (fun hHeld => ?_)
    generalize W.drew = V at *
    refine wpAnyH_take (i := 0) (v := (.pointer (some ⟨Bx, 0, none⟩))) (op_at rfl) (by kernel_rfl) (by kernel_rfl) (by kernel_rfl) (fun _ _ _ h => h) (Or.inl ⟨rfl, fun w hSw => ?_⟩) (by assumption) ?_
    · (try dsimp only at hSw); go_simp; try with_reducible rfl
    (try simp only [Act.put, List.setIfInBounds_toArray, List.set_cons_zero, List.set_cons_succ])
    refine wpAnyH_take (i := 1) (v := (.slice (some ⟨bo, oo, none⟩) os.length co)) (op_at rfl) (by kernel_rfl) (by kernel_rfl) (by kernel_rfl) (fun _ _ _ h => h) (Or.inl ⟨rfl, fun w hSw => ?_⟩) (by assumption) ?_
    · (try dsimp only at hSw); go_simp; try with_reducible rfl
    (try simp only [Act.put, List.setIfInBounds_toArray, List.set_cons_zero, List.set_cons_succ])
    refine wpAnyH_take (i := 2) (v := (.int .i64 (i : Int))) (op_at rfl) (by kernel_rfl) (by kernel_rfl) (by kernel_rfl) (fun _ _ _ h => h) (Or.inl ⟨rfl, fun w hSw => ?_⟩) (by assumption) ?_
    · (try dsimp only at hSw); go_simp; try with_reducible rfl
    (try simp only [Act.put, List.setIfInBounds_toArray, List.set_cons_zero, List.set_cons_succ])
    refine wpAnyH_take (i := 3) (v := (.pointer (some ⟨bo, oo + i * 4, none⟩))) (op_at rfl) (by kernel_rfl) (by kernel_rfl) (by kernel_rfl) (fun _ _ _ h => h) (Or.inl ⟨rfl, fun w hSw => ?_⟩) (by assumption) ?_
    · (try dsimp only at hSw); go_simp; try with_reducible rfl
    (try simp only [Act.put, List.setIfInBounds_toArray, List.set_cons_zero, List.set_cons_succ])
    refine wpAnyH_take (i := 4) (v := (.agg #[.string x.nm, .string x.na, x.u, .int .i64 x.ld])) (op_at rfl) (by kernel_rfl) (by kernel_rfl) (by kernel_rfl) (fun _ _ _ h => h) (Or.inl ⟨rfl, fun w hSw => ?_⟩) (by assumption) ?_
    · (try dsimp only at hSw); go_simp; try with_reducible rfl
    (try simp only [Act.put, List.setIfInBounds_toArray, List.set_cons_zero, List.set_cons_succ])
    refine wpAnyH_take (i := 5) (v := (.pointer (some ⟨Bx, 1, none⟩))) (op_at rfl) (by kernel_rfl) (by kernel_rfl) (by kernel_rfl) (fun _ _ _ h => h) (Or.inl ⟨rfl, fun w hSw => ?_⟩) (by assumption) ?_
    · (try dsimp only at hSw); go_simp; try with_reducible rfl
    (try simp only [Act.put, List.setIfInBounds_toArray, List.set_cons_zero, List.set_cons_succ])
    refine wpAnyH_take (i := 6) (v := (.slice (some ⟨bp, op, none⟩) ps.length cp)) (op_at rfl) (by kernel_rfl) (by kernel_rfl) (by kernel_rfl) (fun _ _ _ h => h) (Or.inl ⟨rfl, fun w hSw => ?_⟩) (by assumption) ?_
    · (try dsimp only at hSw); go_simp; try with_reducible rfl
    (try simp only [Act.put, List.setIfInBounds_toArray, List.set_cons_zero, List.set_cons_succ])
    refine wpAnyH_take (i := 7) (v := (.int .i64 (k : Int))) (op_at rfl) (by kernel_rfl) (by kernel_rfl) (by kernel_rfl) (fun _ _ _ h => h) (Or.inl ⟨rfl, fun w hSw => ?_⟩) (by assumption) ?_
    · (try dsimp only at hSw); go_simp; try with_reducible rfl
    (try simp only [Act.put, List.setIfInBounds_toArray, List.set_cons_zero, List.set_cons_succ])
    refine wpAnyH_take (i := 8) (v := (.pointer (some ⟨bp, op + k * 4, none⟩))) (op_at rfl) (by kernel_rfl) (by kernel_rfl) (by kernel_rfl) (fun _ _ _ h => h) (Or.inl ⟨rfl, fun w hSw => ?_⟩) (by assumption) ?_
    · (try dsimp only at hSw); go_simp; try with_reducible rfl
    (try simp only [Act.put, List.setIfInBounds_toArray, List.set_cons_zero, List.set_cons_succ])
    refine wpAnyH_take (i := 9) (v := (.agg #[.string y.nm, .string y.ro, .int .i64 y.hr, y.u])) (op_at rfl) (by kernel_rfl) (by kernel_rfl) (by kernel_rfl) (fun _ _ _ h => h) (Or.inl ⟨rfl, fun w hSw => ?_⟩) (by assumption) ?_
    · (try dsimp only at hSw); go_simp; try with_reducible rfl
    (try simp only [Act.put, List.setIfInBounds_toArray, List.set_cons_zero, List.set_cons_succ])
    refine wpAnyH_ready (rs := [10]) (by kernel_rfl) (by simp) (AllReadyH.cons (op_at rfl) (fun K hK => ?_) AllReadyH.nil)
    go_simp
    (refine (HM.out _ g).mono ?_; rintro e W9 ⟨rfl, hg⟩; replace a0 := hg.cell a0; replace a1 := hg.cell a1; replace x0 := hg.cell x0; replace x1 := hg.cell x1; replace x2 := hg.cell x2; replace x3 := hg.cell x3; replace y0 := hg.cell y0; replace y1 := hg.cell y1; replace y2 := hg.cell y2; replace y3 := hg.cell y3; replace g := g.trans hg; clear hg)
    go_wp2_with fail
    refine hK.out _ _ ⟨a0, a1, x0, x1, x2, x3, y0, y1, y2, y3⟩ (fun hHeld => ?_)
    clear hK K
    (try simp only [Act.put, List.setIfInBounds_toArray, List.set_cons_zero, List.set_cons_succ])
    refine wpAnyH_take (i := 11) (v := (.bool (!rr))) (op_at rfl) (by kernel_rfl) (by kernel_rfl) (by kernel_rfl) (fun _ _ _ h => h) (Or.inl ⟨rfl, fun w hSw => ?_⟩) (by assumption) ?_
    · (try dsimp only at hSw); go_simp; try with_reducible rfl
    (try simp only [Act.put, List.setIfInBounds_toArray, List.set_cons_zero, List.set_cons_succ])
    refine wpAnyH_ready (rs := [12]) (by kernel_rfl) (by simp) (AllReadyH.cons (op_at rfl) (fun K hK => ?_) AllReadyH.nil)
    go_simp
    (refine (H2.out _).mono ?_; rintro e w' ⟨rfl, rfl⟩)
    go_wp2_with fail
    refine hK.out _ _ ⟨a0, a1, x0, x1, x2, x3, y0, y1, y2, y3⟩ (fun hHeld => ?_)
    clear hK K
    (try simp only [Act.put, List.setIfInBounds_toArray, List.set_cons_zero, List.set_cons_succ])
    refine wpAnyH_take (i := 13) (v := (.int .i64 er)) (op_at rfl) (by kernel_rfl) (by kernel_rfl) (by kernel_rfl) (fun _ _ _ h => h) (Or.inl ⟨rfl, fun w hSw => ?_⟩) (by assumption) ?_
    · (try dsimp only at hSw); go_simp; try with_reducible rfl
    (try simp only [Act.put, List.setIfInBounds_toArray, List.set_cons_zero, List.set_cons_succ])
    refine wpAnyH_done (by kernel_rfl) ?_ _
    go_wp2_with fail
    go_ret
    exact ⟨rfl, g⟩
  · have hE : offE os ps k o = noneE os.length o := by
      unfold offE
      rw [if_neg hm, if_neg hz]
    rw [hE]
    generalize noneE os.length o = z at *
    have q1 : (z == 0) = false := by simpa using hz
    have q2 : (z != 0) = true := by simpa [bne] using q1
    clear hho hhp hr hs hE hk hl1 hl2 hco hcp hm
    go_enter Tryz.func49, Tryz.ntmps49
    go_wp2_with fail
    rw [HW.out]
    refine (H1.out _).mono ?_
    rintro e w' ⟨rfl, rfl⟩
    go_wp2_with fail
    go_ret
    exact ⟨rfl, g⟩
set_option maxHeartbeats 1000000 in
set_option maxRecDepth 100000 in
theorem upTo_c (os : List OfR) (ps : List PoR) (a : List Int) (vo vp va : Value) (k : Nat) (o : Int) (w : World) (ho : OfAts w vo os) (hp : PoAts w vp ps) (ha : IntsC w va a) (hk : a[k]? = some o) (hal : a.length = ps.length) (hr : o = -1 ∨ noneE os.length o = 0) (hl1 : os.length ≤ 1000) (hl2 : ps.length ≤ 1000) :
    Calls Tryz.prog 51 #[.agg #[vo, vp], va, .int .i64 (k : Int)] w fun e w' => e = .returned (.int .i64 (uptoE os ps a k o)) ∧ Gr w w' := by
  have hka := (List.getElem?_eq_some_iff.1 hk).1
  obtain ⟨⟨po, co, rfl, hco, hho⟩⟩ := ho
  obtain ⟨⟨pp, cp, rfl, hcp, hhp⟩⟩ := hp
  obtain ⟨⟨pa, ca, rfl, hcaa, hha⟩⟩ := ha
  obtain ⟨ba, oa, rfl, hqa⟩ := hha (by omega)
  obtain ⟨W, hW, g, a0, a1⟩ := box2 w (.slice po os.length co) (.slice pp ps.length cp) 25
  obtain ⟨W2, hW2, g2, k0⟩ := box1 W (.int .i64 (k : Int)) 3
  have hsz : W.heap.size = w.heap.size + 1 := by rw [← hW]; simp
  rw [hsz] at k0
  replace a0 := g2.cell a0
  replace a1 := g2.cell a1
  replace g := g.trans g2
  have c0 := g.cell (hqa k o hk)
  have hkc : k ≤ ca := by omega
  have hk0 : (k : Int) ≤ a.length := by omega
  clear g2
  by_cases hm : o = -1
  · subst hm
    have hz : uptoE os ps a k (-1) = 0 := rfl
    rw [hz]
    clear hho hhp hr hz a0 a1 hl1 hl2 hco hcp hha hqa hk
    go_enter Tryz.func51, Tryz.ntmps51
    go_wp2_with fail
    go_ret
    exact ⟨rfl, g⟩
  have q0 : (o == -1) = false := by simpa using hm
  have hz := hr.resolve_left hm
  obtain ⟨j1, j2⟩ := noneE_zero hz
  obtain ⟨i, rfl⟩ : ∃ i : Nat, o = (i : Int) := ⟨o.toNat, by omega⟩
  have hi : i < os.length := by omega
  obtain ⟨x, hx⟩ : ∃ x, os[i]? = some x := ⟨_, List.getElem?_eq_getElem hi⟩
  obtain ⟨y, hy⟩ : ∃ y, ps[k]? = some y := ⟨_, List.getElem?_eq_getElem (by omega)⟩
  obtain ⟨bo, oo, rfl, hqo⟩ := hho (by omega)
  obtain ⟨bp, op, rfl, hqp⟩ := hhp (by omega)
  have x3 := g.cell (hqo i x hx).ld
  have HP := Lib.hid (fun W (h : Gr w W) => postsBy_c (a.take k) k (some ⟨ba, oa, none⟩) ca (i : Int) W (by rw [List.length_take]; omega) (by omega) (fun _ => ⟨ba, oa, rfl, fun j z hz => h.cell (hqa j z (by
    rw [List.getElem?_take] at hz
    split at hz
    · exact hz
    · cases hz))⟩))
  have HMEM := Lib.hid (fun z (hz : z ∈ posI (i : Int) (a.take k) 0) => posI_mem (i : Int) hz)
  have hle := posI_le (i : Int) (a.take k) 0
  have hml : (posI (i : Int) (a.take k) 0).length ≤ 1000 := by rw [List.length_take] at hle; omega
  have hR : firstE [if (posI (i : Int) (a.take k) 0).any (sameH ps k) then 9 else 0, if decide (x.ld ≤ ((posI (i : Int) (a.take k) 0).length : Int)) then 5 else 0] = uptoE os ps a k (i : Int) := by
    unfold uptoE
    rw [if_neg hm]
    unfold loadO
    rw [Int.toNat_natCast, hx]
  obtain ⟨zs, hzs⟩ : ∃ z, z = posI (i : Int) (a.take k) 0 := ⟨_, rfl⟩
  rw [← hzs] at HP HMEM hml hR
  obtain ⟨m, hmz⟩ : ∃ z, z = zs.length := ⟨_, rfl⟩
  rw [← hmz] at HP hml hR
  have HMZ := Lib.hid hmz
  obtain ⟨e1, h1', H1⟩ := if_e (zs.any (sameH ps k)) 9
  obtain ⟨e2, h2', H2⟩ := if_e (decide (x.ld ≤ (m : Int))) 5
  rw [← h1', ← h2'] at hR
  have hF := first_pair e1 e2
  rw [hR] at hF
  generalize uptoE os ps a k (i : Int) = err at *
  have HF := Lib.hid hF
  replace H1 := Lib.hid H1
  replace H2 := Lib.hid H2
  have HCC : Hid (∀ (p : Option Addr) (cap B C : Nat) W, Gr w W → (0 < m → ∃ b off, p = some ⟨b, off, none⟩ ∧ ∀ i z, zs[i]? = some z → W.cell? ⟨b, off + i, none⟩ = some (.int .i64 z)) → W.cell? ⟨B, 1, none⟩ = some (.slice (some ⟨bp, op, none⟩) ps.length cp) → W.cell? ⟨C, 0, none⟩ = some (.int .i64 (k : Int)) →
      Calls Tryz.prog 91 #[.slice p m cap, .func (.func 89) #[] #[.pointer (some ⟨B, 0, none⟩), .pointer (some ⟨C, 0, none⟩)]] W fun e w' => e = .returned (.bool (zs.any (sameH ps k))) ∧ Gr W w') := fun p cap B C W g hd hB hC =>
    containsJ_c (sameH ps k) zs m p cap B C W HMZ.out.symm hml hd (fun z W' hz g' => by
      obtain ⟨j, rfl, hj⟩ := HMEM.out z hz
      have hjk := (List.getElem?_eq_some_iff.1 hj).1
      rw [List.length_take] at hjk
      obtain ⟨yj, hyj⟩ : ∃ y, ps[j]? = some y := ⟨_, List.getElem?_eq_getElem (by omega)⟩
      rw [Nat.zero_add]
      exact sameHr_c ps ps.length bp op cp B C j k yj y W' rfl hyj hy (fun i x hx => (hqp i x hx).gr (g.trans g')) (g'.cell hB) (g'.cell hC))
  generalize zs.any (sameH ps k) = tw at *
  clear hho hhp hha hqa hqo hqp hx hy hk hm hz j1 j2 hr hF h1' h2' hR hle hzs HMEM hco hcp hcaa hmz
  obtain ⟨Bx, hBx⟩ : ∃ z, z = w.heap.size := ⟨_, rfl⟩
  rw [← hBx] at a0 a1 k0 hsz
  have HBX := Lib.hid hBx
  clear hBx
  go_enter Tryz.func51, Tryz.ntmps51
  go_wp2_with fail
  refine (HP.out _ g).mono ?_
  rintro e W4 ⟨v, rfl, hown, hg⟩
  obtain ⟨pb, cb, rfl⟩ := own_sliceJ hown
  have HCL := Lib.hid (own_cellsJ hown HMZ.out)
  replace a0 := hg.cell a0
  replace a1 := hg.cell a1
  replace k0 := hg.cell k0
  replace x3 := hg.cell x3
  replace g := g.trans hg
  clear hg hown
  clear hW hW2
  go_wp2_with fail
  rw [← HBX.out]
  obtain ⟨C, hC⟩ : ∃ z, z = Bx + 1 := ⟨_, rfl⟩
  rw [← hC] at k0
  (try rw [hsz])
  rw [← hC]
  clear hC HBX hsz
  have gd := (Gr.refl W4).drew
  have HC : Hid (∀ W, Gr W4.drew W → W.cell? ⟨Bx, 1, none⟩ = some (.slice (some ⟨bp, op, none⟩) ps.length cp) → W.cell? ⟨C, 0, none⟩ = some (.int .i64 (k : Int)) →
      Calls Tryz.prog 91 #[.slice pb m cb, .func (.func 89) #[] #[.pointer (some ⟨Bx, 0, none⟩), .pointer (some ⟨C, 0, none⟩)]] W fun e w' => e = .returned (.bool tw) ∧ Gr W w') := fun W h hB hC =>
    HCC.out pb cb Bx C W ((g.trans gd).trans h) (fun h0 => by
      obtain ⟨b, off, e, hh⟩ := HCL.out h0
      exact ⟨b, off, e, fun i z hz => (gd.trans h).cell (hh i z hz)⟩) hB hC
  replace a0 := gd.cell a0
  replace a1 := gd.cell a1
  replace k0 := gd.cell k0
  replace x3 := gd.cell x3
  replace g := g.trans gd
  have gq := Gr.refl W4.drew
  clear gd HCC HCL
  refine wp_region_held_drew (S := (fun w' => w'.cell? ⟨Bx, 0, none⟩ = some (.slice (some ⟨bo, oo, none⟩) os.length co) ∧ w'.cell? ⟨Bx, 1, none⟩ = some (.slice (some ⟨bp, op, none⟩) ps.length cp) ∧ w'.cell? ⟨C, 0, none⟩ = some (.int .i64 (k : Int)) ∧ w'.cell? ⟨bo, oo + i * 4 + 3, none⟩ = some (.int .i64 x.ld))) (by kernel_rfl) ⟨a0, a1, k0, x3⟩ (fun hHeld => ?_)
  generalize W4.drew = V at *
  refine wpAnyH_take (i := 0) (v := (.slice pb m cb)) (op_at rfl) (by kernel_rfl) (by kernel_rfl) (by kernel_rfl) (fun _ _ _ h => h) (Or.inl ⟨rfl, fun w hSw => ?_⟩) (by assumption) ?_
  · (try dsimp only at hSw); go_simp; try with_reducible rfl
  (try simp only [Act.put, List.setIfInBounds_toArray, List.set_cons_zero, List.set_cons_succ])
  refine wpAnyH_take (i := 1) (v := (.func (.func 89) #[] #[.pointer (some ⟨Bx, 0, none⟩), .pointer (some ⟨C, 0, none⟩)])) (op_at rfl) (by kernel_rfl) (by kernel_rfl) (by kernel_rfl) (fun _ _ _ h => h) (Or.inl ⟨rfl, fun w hSw => ?_⟩) (by assumption) ?_
  · (try dsimp only at hSw); go_simp; try with_reducible rfl
  (try simp only [Act.put, List.setIfInBounds_toArray, List.set_cons_zero, List.set_cons_succ])
  refine wpAnyH_take (i := 4) (v := (.slice pb m cb)) (op_at rfl) (by kernel_rfl) (by kernel_rfl) (by kernel_rfl) (fun _ _ _ h => h) (Or.inl ⟨rfl, fun w hSw => ?_⟩) (by assumption) ?_
  · (try dsimp only at hSw); go_simp; try with_reducible rfl
  (try simp only [Act.put, List.setIfInBounds_toArray, List.set_cons_zero, List.set_cons_succ])
  refine wpAnyH_take (i := 5) (v := (.int .i64 (m : Int))) (op_at rfl) (by kernel_rfl) (by kernel_rfl) (by kernel_rfl) (fun _ _ _ h => h) (Or.inl ⟨rfl, fun w hSw => ?_⟩) (by assumption) ?_
  · (try dsimp only at hSw); go_simp; try with_reducible rfl
  (try simp only [Act.put, List.setIfInBounds_toArray, List.set_cons_zero, List.set_cons_succ])
  refine wpAnyH_take (i := 6) (v := (.pointer (some ⟨Bx, 0, none⟩))) (op_at rfl) (by kernel_rfl) (by kernel_rfl) (by kernel_rfl) (fun _ _ _ h => h) (Or.inl ⟨rfl, fun w hSw => ?_⟩) (by assumption) ?_
  · (try dsimp only at hSw); go_simp; try with_reducible rfl
  (try simp only [Act.put, List.setIfInBounds_toArray, List.set_cons_zero, List.set_cons_succ])
  refine wpAnyH_take (i := 7) (v := (.slice (some ⟨bo, oo, none⟩) os.length co)) (op_at rfl) (by kernel_rfl) (by kernel_rfl) (by kernel_rfl) (fun _ _ _ h => h) (Or.inl ⟨rfl, fun w hSw => ?_⟩) (by assumption) ?_
  · (try dsimp only at hSw); go_simp; try with_reducible rfl
  (try simp only [Act.put, List.setIfInBounds_toArray, List.set_cons_zero, List.set_cons_succ])
  refine wpAnyH_take (i := 8) (v := (.int .i64 (i : Int))) (op_at rfl) (by kernel_rfl) (by kernel_rfl) (by kernel_rfl) (fun _ _ _ h => h) (Or.inl ⟨rfl, fun w hSw => ?_⟩) (by assumption) ?_
  · (try dsimp only at hSw); go_simp; try with_reducible rfl
  (try simp only [Act.put, List.setIfInBounds_toArray, List.set_cons_zero, List.set_cons_succ])
  refine wpAnyH_take (i := 9) (v := (.pointer (some ⟨bo, oo + i * 4, none⟩))) (op_at rfl) (by kernel_rfl) (by kernel_rfl) (by kernel_rfl) (fun _ _ _ h => h) (Or.inl ⟨rfl, fun w hSw => ?_⟩) (by assumption) ?_
  · (try dsimp only at hSw); go_simp; try with_reducible rfl
  (try simp only [Act.put, List.setIfInBounds_toArray, List.set_cons_zero, List.set_cons_succ])
  refine wpAnyH_take (i := 10) (v := (.pointer (some ⟨bo, oo + i * 4 + 3, none⟩))) (op_at rfl) (by kernel_rfl) (by kernel_rfl) (by kernel_rfl) (fun _ _ _ h => h) (Or.inl ⟨rfl, fun w hSw => ?_⟩) (by assumption) ?_
  · (try dsimp only at hSw); go_simp; try with_reducible rfl
  (try simp only [Act.put, List.setIfInBounds_toArray, List.set_cons_zero, List.set_cons_succ])
  refine wpAnyH_take (i := 11) (v := (.int .i64 x.ld)) (op_at rfl) (by kernel_rfl) (by kernel_rfl) (by kernel_rfl) (fun _ _ _ h => h) (Or.inl ⟨rfl, fun w hSw => ?_⟩) (by assumption) ?_
  · (try dsimp only at hSw); go_simp; try with_reducible rfl
  (try simp only [Act.put, List.setIfInBounds_toArray, List.set_cons_zero, List.set_cons_succ])
  refine wpAnyH_take (i := 12) (v := (.bool (decide (x.ld ≤ (m : Int))))) (op_at rfl) (by kernel_rfl) (by kernel_rfl) (by kernel_rfl) (fun _ _ _ h => h) (Or.inl ⟨rfl, fun w hSw => ?_⟩) (by assumption) ?_
  · (try dsimp only at hSw); go_simp; try with_reducible rfl
  (try simp only [Act.put, List.setIfInBounds_toArray, List.set_cons_zero, List.set_cons_succ])
  refine wpAnyH_ready (rs := [2]) (by kernel_rfl) (by simp) (AllReadyH.cons (op_at rfl) (fun K hK => ?_) AllReadyH.nil)
  go_simp
  (refine (HC.out _ gq a1 k0).mono ?_; rintro e W5 ⟨rfl, hg⟩; replace a0 := hg.cell a0; replace a1 := hg.cell a1; replace k0 := hg.cell k0; replace x3 := hg.cell x3; replace g := g.trans hg; clear hg)
  go_wp2_with fail
  refine hK.out _ _ ⟨a0, a1, k0, x3⟩ (fun hHeld => ?_)
  clear hK K
  (try simp only [Act.put, List.setIfInBounds_toArray, List.set_cons_zero, List.set_cons_succ])
  refine wpAnyH_ready (rs := [3]) (by kernel_rfl) (by simp) (AllReadyH.cons (op_at rfl) (fun K hK => ?_) AllReadyH.nil)
  go_simp
  (refine (H1.out _).mono ?_; rintro e w' ⟨rfl, rfl⟩)
  go_wp2_with fail
  refine hK.out _ _ ⟨a0, a1, k0, x3⟩ (fun hHeld => ?_)
  clear hK K
  (try simp only [Act.put, List.setIfInBounds_toArray, List.set_cons_zero, List.set_cons_succ])
  refine wpAnyH_ready (rs := [13]) (by kernel_rfl) (by simp) (AllReadyH.cons (op_at rfl) (fun K hK => ?_) AllReadyH.nil)
  go_simp
  (refine (H2.out _).mono ?_; rintro e w' ⟨rfl, rfl⟩)
  go_wp2_with fail
  refine hK.out _ _ ⟨a0, a1, k0, x3⟩ (fun hHeld => ?_)
  clear hK K
  (try simp only [Act.put, List.setIfInBounds_toArray, List.set_cons_zero, List.set_cons_succ])
  refine wpAnyH_ready (rs := [14]) (by kernel_rfl) (by simp) (AllReadyH.cons (op_at rfl) (fun K hK => ?_) AllReadyH.nil)
  go_simp
  obtain ⟨WW, hWW, gW, s0, s1⟩ := box2 W5 (.int .i64 e1) (.int .i64 e2) 36
  rw [hWW]
  clear hWW
  replace a0 := gW.cell a0
  replace a1 := gW.cell a1
  replace k0 := gW.cell k0
  replace x3 := gW.cell x3
  replace g := g.trans gW
  refine hK.out _ _ ⟨a0, a1, k0, x3⟩ (fun hHeld => ?_)
  clear hK K
  (try simp only [Act.put, List.setIfInBounds_toArray, List.set_cons_zero, List.set_cons_succ])
  refine wpAnyH_ready (rs := [15]) (by kernel_rfl) (by simp) (AllReadyH.cons (op_at rfl) (fun K hK => ?_) AllReadyH.nil)
  go_simp
  (refine (HF.out _ _ WW s0 s1).mono ?_; rintro e w8 ⟨rfl, rfl⟩)
  go_wp2_with fail
  refine hK.out _ _ ⟨a0, a1, k0, x3⟩ (fun hHeld => ?_)
  clear hK K
  (try simp only [Act.put, List.setIfInBounds_toArray, List.set_cons_zero, List.set_cons_succ])
  refine wpAnyH_take (i := 16) (v := (.int .i64 err)) (op_at rfl) (by kernel_rfl) (by kernel_rfl) (by kernel_rfl) (fun _ _ _ h => h) (Or.inl ⟨rfl, fun w hSw => ?_⟩) (by assumption) ?_
  · (try dsimp only at hSw); go_simp; try with_reducible rfl
  (try simp only [Act.put, List.setIfInBounds_toArray, List.set_cons_zero, List.set_cons_succ])
  refine wpAnyH_done (by kernel_rfl) ?_ _
  go_wp2_with fail
  go_ret
  exact ⟨rfl, g⟩
end Go.Proofs.YtjojbcgppkfidaaGreat
