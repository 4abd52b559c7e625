/- Brackets: the law, walked. -/
import Derived.Test.YtjpkeolielpelaaGreatDoorGRcL
namespace Go.Proofs.YtjpkeolielpelaaGreatDoor
open Go.RowKit Go.Lib
set_option linter.unusedSimpArgs false
set_option linter.unusedVariables false
def AwakeOK (w : World) : Prop := ∀ W, Gr w W → Calls Tryz.prog 5 #[] W fun e w' => e = .returned (.bool true) ∧ Gr W w'
theorem races_all (ns : List ByteArray) (v : Value) (w : World) (hv : StrAts w v ns) (h : namesE ns = 0) :
    Calls Tryz.prog 15 #[v] w fun e w' => ∃ q k N c, e = .returned (.tuple #[.slice q N c, .int .i64 0]) ∧ ((ns.length : Int) ≤ ((2 ^ k : Nat) : Int)) ∧ (((2 ^ k : Nat) : Int) < 2 * (ns.length : Int)) ∧ (firstR ns k).length = N ∧ N ≤ 100 ∧ RaS w' q (firstR ns k) ∧ Gr w w' := by
  have hl := namesE_zero h
  by_cases h2 : 2 ≤ ns.length
  · exact races_good ns v w hv h h2
  · have h1 : ns.length = 1 := by omega
    refine (races_one ns v w hv h h1).mono ?_
    rintro e w' ⟨q, c, rfl, hr, hg⟩
    obtain ⟨x, rfl⟩ := List.length_eq_one_iff.1 h1
    exact ⟨q, 0, 1, c, rfl, by simp, by simp, rfl, by omega, hr, hg⟩
theorem ref_len {w : World} {b N : Nat} {T : TypeId} {u : Value} {l : List RaR} (h : w.ownsRow b T 3 u N (raCs l)) : l.length = N := by
  have := h.1
  rw [raCs_len] at this
  omega
theorem reads_own {w : World} {b n c : Nat} {q : Option Addr} {zs : List Int} (h : w.ownsRow b 3 1 (.slice q n c) n (ints zs)) : ReadsI w (.slice q n c) zs := (IntS.of_own h).reads (fun b2 off e => by
  rcases h.2 with ⟨h3, _⟩ | ⟨g, cap, cur, h3, _⟩
  · cases h3; cases e
  · cases h3; cases e; rfl)
theorem twoE_first (n x y : Int) (b : Bool) (h : b = (outE x 1 n + outE y 1 n != 0)) : firstE [if b then 10 else 0, if (x == y) then 9 else 0] = twoE n x y := by
  unfold twoE
  rw [h]
  by_cases hq : outE x 1 n + outE y 1 n = 0
  · rw [hq]
    by_cases hxy : x = y
    · rw [if_neg (by simp), if_pos hxy, if_pos (by simpa using hxy)]; rfl
    · rw [if_neg (by simp), if_neg hxy, if_neg (by simpa using hxy)]; rfl
  · rw [if_pos hq, if_pos (by simpa using hq)]; rfl
theorem twoE_zero {n x y : Int} (h : twoE n x y = 0) : (1 ≤ x ∧ x ≤ n) ∧ (1 ≤ y ∧ y ≤ n) ∧ x ≠ y := by
  unfold twoE at h
  have h1 := outE_if6 x 1 n
  have h2 := outE_if6 y 1 n
  split at h
  · cases h
  · rename_i hq
    split at h
    · cases h
    · rename_i hxy
      split at h1 <;> split at h2 <;> first | omega | exact ⟨⟨by omega, by omega⟩, ⟨by omega, by omega⟩, hxy⟩
theorem when_e (b : Bool) (m : Int) : ∃ z, z = (if b then m else 0) ∧ ∀ W, Calls Tryz.prog 12 #[.bool b, .int .i64 m] W fun e w' => e = .returned (.int .i64 z) ∧ W = w' := ⟨_, rfl, fun W => when6_c b m W⟩
set_option maxHeartbeats 4000000 in
set_option maxRecDepth 100000 in
theorem lawBrackets_c (n0 x y : Int) (ns : List ByteArray) (v : Value) (w : World) (hv : StrAts w v ns) (hA : AwakeOK w) :
    Calls Tryz.prog 3 #[.int .i64 n0, .agg #[.int .i64 x, .int .i64 y], v] w fun e w' => e = .returned (.bool true) ∧ Gr w w' := by
  have HA := Lib.hid hA
  have HV := Lib.hid hv
  obtain ⟨⟨p, cap, rfl, hcap, hh⟩⟩ := hv
  obtain ⟨n, hn⟩ : ∃ n, n = ns.length := ⟨_, rfl⟩
  rw [← hn] at HV hh ⊢
  have HN := Lib.hid hn
  have HH := Lib.hid hh
  have HNE : Hid ((namesE ns ≠ 0 ∧ True) ∨ (namesE ns = 0 ∧ True)) := by
    by_cases h : namesE ns = 0
    · exact .inr ⟨h, trivial⟩
    · exact .inl ⟨h, trivial⟩
  obtain ⟨W1, hW1, g1, b0⟩ : ∃ W, w.alloc (.cells #[.int .i64 x, .int .i64 y] 22) = W ∧ Gr w W ∧ (W.cell? ⟨w.heap.size, 0, none⟩ = some (.int .i64 x) ∧ W.cell? ⟨w.heap.size, 1, none⟩ = some (.int .i64 y)) := ⟨_, rfl, (Gr.refl w).alloc _, cell_new w #[.int .i64 x, .int .i64 y] 22 0 (by simp), cell_new w #[.int .i64 x, .int .i64 y] 22 1 (by simp)⟩
  have HW1 := Lib.hid hW1
  clear hA hcap hh hn hW1
  go_enter Tryz.func3, Tryz.ntmps3
  go_wp2_with fail
  rw [HW1.out]
  refine (HA.out W1 g1).mono ?_
  rintro e W2 ⟨rfl, g2⟩
  have G2 : Gr w W2 := g1.trans g2
  have b02 := Gr.cell g2 b0.1
  have b12 := Gr.cell g2 b0.2
  by_cases h70 : 70 < n
  · have h70i : (70 : Int) < (n : Int) := by omega
    go_wp2_with fail
    refine (HA.out W2 G2).mono ?_
    rintro e W3 ⟨rfl, g3⟩
    go_wp2_with fail
    go_ret
    exact ⟨rfl, G2.trans g3⟩
  have h70i : ¬ (70 : Int) < (n : Int) := by omega
  go_wp2_with fail
  go_loopg [7] n (fun gk s7 wr => ∃ k : Nat, s7 = .int .i64 (k : Int) ∧ gk + k = n ∧ Gr W2 wr)
  case atStart => exact ⟨0, rfl, by omega, Gr.refl _⟩
  case round =>
    obtain ⟨k, rfl, hk, hg⟩ := hrel
    by_cases hlt : k < n
    · obtain ⟨z, hz⟩ : ∃ z, ns[k]? = some z := ⟨ns[k]'(by have := HN.out; omega), List.getElem?_eq_getElem _⟩
      obtain ⟨b, off, rfl, hc⟩ := HH.out (by omega)
      have cz := Gr.cell (G2.trans hg) (hc k z hz).nm
      have hi : (k : Int) < (n : Int) := by omega
      clear hz hc
      by_cases hl : 40 < z.size
      · have hli : (40 : Int) < (z.size : Int) := by omega
        go_wp2_with fail
        go_ret
        exact ⟨rfl, G2.trans hg⟩
      · have hli : ¬ (40 : Int) < (z.size : Int) := by omega
        go_wp2_with fail
        go_roundg (gk - 1)
        case measure => omega
        case rel => exact ⟨k + 1, by go_num, by omega, hg⟩
    · obtain rfl : n = k := by omega
      have hi : ¬ (n : Int) < (n : Int) := by omega
      have G3 := Lib.hid (G2.trans hg)
      have b03 := Gr.cell hg b02
      have b13 := Gr.cell hg b12
      clear h70 h70i hlt b02 b12
      have HO := Lib.hid (fun W => outside6_c n0 1 64 W)
      by_cases hb : outE n0 1 64 = 0
      · have hn0 := outE_zero.1 hb
        rw [hb] at HO
        have HBr := Lib.hid (fun W => bracketE_c n0 hn0 W)
        have HRr := Lib.hid (fun W => refBracket_c n0 hn0 W)
        obtain ⟨ex, hex⟩ : ∃ ex, ex = outE x 1 n0 := ⟨_, rfl⟩
        obtain ⟨ey, hey⟩ : ∃ ey, ey = outE y 1 n0 := ⟨_, rfl⟩
        obtain ⟨es, hes⟩ : ∃ es, ex + ey = es := ⟨_, rfl⟩
        obtain ⟨e10, he10, h10⟩ := when_e (es != 0) 10
        obtain ⟨e9, he9, h9⟩ := when_e (x == y) 9
        have HOx : Hid (∀ W, Calls Tryz.prog 8 #[.int .i64 x, .int .i64 1, .int .i64 n0] W fun e w' => e = .returned (.int .i64 ex) ∧ W = w') := fun W => by rw [hex]; exact outside6_c x 1 n0 W
        have HOy : Hid (∀ W, Calls Tryz.prog 8 #[.int .i64 y, .int .i64 1, .int .i64 n0] W fun e w' => e = .returned (.int .i64 ey) ∧ W = w') := fun W => by rw [hey]; exact outside6_c y 1 n0 W
        have H10 := Lib.hid h10
        have H9 := Lib.hid h9
        have HFI0 := fun b c W => first6_c e10 e9 b c W
        rw [he10, he9, twoE_first n0 x y (es != 0) (by rw [← hes, hex, hey]), ← he10, ← he9] at HFI0
        have HME : Hid (meetE n0 x y = twoE n0 x y) := by rw [Hid, meetE, if_neg (by rw [hb]; simp)]
        have hbd : (0 ≤ ex ∧ ex ≤ 3) ∧ (0 ≤ ey ∧ ey ≤ 3) := by rw [hex, hey, outE_if6, outE_if6]; constructor <;> split <;> omega
        have wes : IntKind.i64.wrap es = es := by rw [IntKind.wrap_i64]; omega
        have hT := Lib.hid (fun h => twoE_zero (n := n0) (x := x) (y := y) h)
        have HMB := Lib.hid (fun W h => meet_bad n0 x y h W)
        rw [HME.out] at HMB
        obtain ⟨two, htw⟩ : ∃ two, two = twoE n0 x y := ⟨_, rfl⟩
        rw [← htw] at HFI0 HMB hT
        have HFI := Lib.hid HFI0
        have HN0 := Lib.hid hn0
        clear HFI0 h10 h9 he10 he9 htw HME hex hey hbd hn0 hb
        by_cases h2 : two = 0
        · have t1 : (two != 0) = false := by rw [h2]; rfl
          have t2 : (two == 0) = true := by rw [h2]; rfl
          obtain ⟨⟨hx1, hx2⟩, ⟨hy1, hy2⟩, hxy⟩ := hT.out h2
          go_wp2_with fail
          refine (HBr.out wr).mono ?_
          rintro e W4 ⟨v4, k, rfl, hk1, hk2, hown4, g4⟩
          have hR : Rnd n0 k := ⟨by omega, HN0.out.2, hk1, hk2⟩
          have hTw : Two n0 x y k := ⟨hR, hx1, hx2, hy1, hy2, hxy⟩
          have HMt := Lib.hid (fun W => Meet_c n0 x y k hTw W)
          have HRt := Lib.hid (fun W => refMeet_c n0 x y k hTw W)
          have HK1 := Lib.hid hk1
          have HK2 := Lib.hid hk2
          have HO4 := Lib.hid hown4
          have H64 : Hid (2 ^ k ≤ 128) := by rw [Hid]; have := HN0.out; omega
          clear hk1 hk2 hown4 hR hTw h2 hx1 hx2 hy1 hy2 hxy
          obtain ⟨q4, c4, rfl, _, _⟩ := own_shape HO4.out
          have HRD := Lib.hid (reads_own HO4.out)
          generalize mtK (growB k) x y = mt at *
          have c03 := Gr.cell g4 b03
          have c13 := Gr.cell g4 b13
          have G4 := Lib.hid (G3.out.trans g4)
          go_wp2_with fail
          refine (HMt.out W4).mono ?_
          rintro e W5 ⟨rfl, g5⟩
          have c05 := Gr.cell g5 c03
          have c15 := Gr.cell g5 c13
          have G5 := Lib.hid (G4.out.trans g5)
          go_wp2_with fail
          refine (HO.out W5).mono ?_
          rintro e W6 ⟨rfl, rfl⟩
          obtain ⟨W6, rfl⟩ : ∃ W6, W6 = W5 := ⟨_, rfl⟩
          have G6 := Lib.hid G5.out
          have c04 := c05
          have c14 := c15
          have HR5 := Lib.hid (HRD.out.gr g5)
          clear c05 c15 b03 b13 c03 c13
          go_wp2_with fail
          refine wp_region_held_drew (S := (fun w' => w'.cell? ⟨w.heap.size, 0, none⟩ = some (.int .i64 x) ∧ w'.cell? ⟨w.heap.size, 1, none⟩ = some (.int .i64 y))) (by kernel_rfl) ⟨c04, c14⟩ (fun hHeld => ?_)
          have GV := Lib.hid (Gr.drew G6.out)
          have HRV : Hid (ReadsI W6.drew (.slice q4 (2 ^ k) c4) (zK n0 (growB k))) := HR5.out.gr (Gr.drew (Gr.refl W6))
          have v0 : W6.drew.cell? _ = _ := c04
          have v1 : W6.drew.cell? _ = _ := c14
          generalize hVV : W6.drew = V at *
          clear hVV
          refine wpAnyH_take (i := 0) (v := (.pointer (some ⟨w.heap.size, 0, none⟩))) (op_at rfl) (by kernel_rfl) (by kernel_rfl) (by kernel_rfl) (fun _ _ _ h => h) (Or.inl ⟨rfl, fun w hSw => ?_⟩) (by assumption) ?_
          · (try dsimp only at hSw); go_simp; try with_reducible rfl
          (try simp only [Act.put, List.setIfInBounds_toArray, List.set_cons_zero, List.set_cons_succ])
          refine wpAnyH_take (i := 1) (v := (.int .i64 x)) (op_at rfl) (by kernel_rfl) (by kernel_rfl) (by kernel_rfl) (fun _ _ _ h => h) (Or.inl ⟨rfl, fun w hSw => ?_⟩) (by assumption) ?_
          · (try dsimp only at hSw); go_simp; try with_reducible rfl
          (try simp only [Act.put, List.setIfInBounds_toArray, List.set_cons_zero, List.set_cons_succ])
          refine wpAnyH_take (i := 2) (v := (.int .i64 n0)) (op_at rfl) (by kernel_rfl) (by kernel_rfl) (by kernel_rfl) (fun _ _ _ h => h) (Or.inl ⟨rfl, fun w hSw => ?_⟩) (by assumption) ?_
          · (try dsimp only at hSw); go_simp; try with_reducible rfl
          (try simp only [Act.put, List.setIfInBounds_toArray, List.set_cons_zero, List.set_cons_succ])
          refine wpAnyH_take (i := 4) (v := (.pointer (some ⟨w.heap.size, 1, none⟩))) (op_at rfl) (by kernel_rfl) (by kernel_rfl) (by kernel_rfl) (fun _ _ _ h => h) (Or.inl ⟨rfl, fun w hSw => ?_⟩) (by assumption) ?_
          · (try dsimp only at hSw); go_simp; try with_reducible rfl
          (try simp only [Act.put, List.setIfInBounds_toArray, List.set_cons_zero, List.set_cons_succ])
          refine wpAnyH_take (i := 5) (v := (.int .i64 y)) (op_at rfl) (by kernel_rfl) (by kernel_rfl) (by kernel_rfl) (fun _ _ _ h => h) (Or.inl ⟨rfl, fun w hSw => ?_⟩) (by assumption) ?_
          · (try dsimp only at hSw); go_simp; try with_reducible rfl
          (try simp only [Act.put, List.setIfInBounds_toArray, List.set_cons_zero, List.set_cons_succ])
          refine wpAnyH_take (i := 6) (v := (.int .i64 n0)) (op_at rfl) (by kernel_rfl) (by kernel_rfl) (by kernel_rfl) (fun _ _ _ h => h) (Or.inl ⟨rfl, fun w hSw => ?_⟩) (by assumption) ?_
          · (try dsimp only at hSw); go_simp; try with_reducible rfl
          (try simp only [Act.put, List.setIfInBounds_toArray, List.set_cons_zero, List.set_cons_succ])
          refine wpAnyH_take (i := 11) (v := (.pointer (some ⟨w.heap.size, 0, none⟩))) (op_at rfl) (by kernel_rfl) (by kernel_rfl) (by kernel_rfl) (fun _ _ _ h => h) (Or.inl ⟨rfl, fun w hSw => ?_⟩) (by assumption) ?_
          · (try dsimp only at hSw); go_simp; try with_reducible rfl
          (try simp only [Act.put, List.setIfInBounds_toArray, List.set_cons_zero, List.set_cons_succ])
          refine wpAnyH_take (i := 12) (v := (.int .i64 x)) (op_at rfl) (by kernel_rfl) (by kernel_rfl) (by kernel_rfl) (fun _ _ _ h => h) (Or.inl ⟨rfl, fun w hSw => ?_⟩) (by assumption) ?_
          · (try dsimp only at hSw); go_simp; try with_reducible rfl
          (try simp only [Act.put, List.setIfInBounds_toArray, List.set_cons_zero, List.set_cons_succ])
          refine wpAnyH_take (i := 13) (v := (.pointer (some ⟨w.heap.size, 1, none⟩))) (op_at rfl) (by kernel_rfl) (by kernel_rfl) (by kernel_rfl) (fun _ _ _ h => h) (Or.inl ⟨rfl, fun w hSw => ?_⟩) (by assumption) ?_
          · (try dsimp only at hSw); go_simp; try with_reducible rfl
          (try simp only [Act.put, List.setIfInBounds_toArray, List.set_cons_zero, List.set_cons_succ])
          refine wpAnyH_take (i := 14) (v := (.int .i64 y)) (op_at rfl) (by kernel_rfl) (by kernel_rfl) (by kernel_rfl) (fun _ _ _ h => h) (Or.inl ⟨rfl, fun w hSw => ?_⟩) (by assumption) ?_
          · (try dsimp only at hSw); go_simp; try with_reducible rfl
          (try simp only [Act.put, List.setIfInBounds_toArray, List.set_cons_zero, List.set_cons_succ])
          refine wpAnyH_take (i := 15) (v := (.bool (x == y))) (op_at rfl) (by kernel_rfl) (by kernel_rfl) (by kernel_rfl) (fun _ _ _ h => h) (Or.inl ⟨rfl, fun w hSw => ?_⟩) (by assumption) ?_
          · (try dsimp only at hSw); go_simp; try with_reducible rfl
          (try simp only [Act.put, List.setIfInBounds_toArray, List.set_cons_zero, List.set_cons_succ])
          refine wpAnyH_ready (rs := [3]) (by kernel_rfl) (by simp) (AllReadyH.cons (op_at rfl) (fun K hK => ?_) AllReadyH.nil)
          go_simp
          refine (HOx.out _).mono ?_
          rintro e w8 ⟨rfl, rfl⟩
          go_wp2_with fail
          refine hK.out _ _ ⟨v0, v1⟩ (fun hHeld => ?_)
          clear hK K
          (try simp only [Act.put, List.setIfInBounds_toArray, List.set_cons_zero, List.set_cons_succ])
          refine wpAnyH_ready (rs := [7]) (by kernel_rfl) (by simp) (AllReadyH.cons (op_at rfl) (fun K hK => ?_) AllReadyH.nil)
          go_simp
          refine (HOy.out _).mono ?_
          rintro e w8 ⟨rfl, rfl⟩
          go_wp2_with fail
          refine hK.out _ _ ⟨v0, v1⟩ (fun hHeld => ?_)
          clear hK K
          (try simp only [Act.put, List.setIfInBounds_toArray, List.set_cons_zero, List.set_cons_succ])
          refine wpAnyH_take (i := 8) (v := (.int .i64 es)) (op_at rfl) (by kernel_rfl) (by kernel_rfl) (by kernel_rfl) (fun _ _ _ h => h) (Or.inl ⟨rfl, fun w hSw => ?_⟩) (by assumption) ?_
          · (try dsimp only at hSw); go_simp; try with_reducible rfl
          (try simp only [Act.put, List.setIfInBounds_toArray, List.set_cons_zero, List.set_cons_succ])
          refine wpAnyH_take (i := 9) (v := (.bool (es != 0))) (op_at rfl) (by kernel_rfl) (by kernel_rfl) (by kernel_rfl) (fun _ _ _ h => h) (Or.inl ⟨rfl, fun w hSw => ?_⟩) (by assumption) ?_
          · (try dsimp only at hSw); go_simp; try with_reducible rfl
          (try simp only [Act.put, List.setIfInBounds_toArray, List.set_cons_zero, List.set_cons_succ])
          refine wpAnyH_ready (rs := [10]) (by kernel_rfl) (by simp) (AllReadyH.cons (op_at rfl) (fun K hK => ?_) AllReadyH.nil)
          go_simp
          refine (H10.out _).mono ?_
          rintro e w8 ⟨rfl, rfl⟩
          go_wp2_with fail
          refine hK.out _ _ ⟨v0, v1⟩ (fun hHeld => ?_)
          clear hK K
          (try simp only [Act.put, List.setIfInBounds_toArray, List.set_cons_zero, List.set_cons_succ])
          refine wpAnyH_ready (rs := [16]) (by kernel_rfl) (by simp) (AllReadyH.cons (op_at rfl) (fun K hK => ?_) AllReadyH.nil)
          go_simp
          refine (H9.out _).mono ?_
          rintro e w8 ⟨rfl, rfl⟩
          go_wp2_with fail
          refine hK.out _ _ ⟨v0, v1⟩ (fun hHeld => ?_)
          clear hK K
          (try simp only [Act.put, List.setIfInBounds_toArray, List.set_cons_zero, List.set_cons_succ])
          have gv := (Gr.refl V).alloc (.cells #[.int .i64 e10, .int .i64 e9] 3)
          have u0 := Gr.cell gv v0
          have u1 := Gr.cell gv v1
          have GW := Lib.hid (Gr.trans GV.out gv)
          have HRW := Lib.hid (HRV.out.gr gv)
          refine wpAnyH_ready (rs := [17]) (by kernel_rfl) (by simp) (AllReadyH.cons (op_at rfl) (fun K hK => ?_) AllReadyH.nil)
          go_simp
          refine hK.out _ _ ⟨u0, u1⟩ (fun hHeld => ?_)
          clear hK K
          (try simp only [Act.put, List.setIfInBounds_toArray, List.set_cons_zero, List.set_cons_succ])
          have HF1 := HFI.out V.heap.size 2 (V.alloc (.cells #[.int .i64 e10, .int .i64 e9] 3)) (cell_new V #[.int .i64 e10, .int .i64 e9] 3 0 (by simp)) (cell_new V #[.int .i64 e10, .int .i64 e9] 3 1 (by simp))
          have HF1 := Lib.hid HF1
          generalize hVV : V.alloc (.cells #[.int .i64 e10, .int .i64 e9] 3) = V2 at *
          clear hVV
          refine wpAnyH_ready (rs := [18]) (by kernel_rfl) (by simp) (AllReadyH.cons (op_at rfl) (fun K hK => ?_) AllReadyH.nil)
          go_simp
          refine HF1.out.mono ?_
          rintro e w8 ⟨rfl, rfl⟩
          go_wp2_with fail
          refine hK.out _ _ ⟨u0, u1⟩ (fun hHeld => ?_)
          clear hK K
          (try simp only [Act.put, List.setIfInBounds_toArray, List.set_cons_zero, List.set_cons_succ])
          refine wpAnyH_take (i := 19) (v := (.int .i64 two)) (op_at rfl) (by kernel_rfl) (by kernel_rfl) (by kernel_rfl) (fun _ _ _ h => h) (Or.inl ⟨rfl, fun w hSw => ?_⟩) (by assumption) ?_
          · (try dsimp only at hSw); go_simp; try with_reducible rfl
          (try simp only [Act.put, List.setIfInBounds_toArray, List.set_cons_zero, List.set_cons_succ])
          refine wpAnyH_done (by kernel_rfl) ?_ _
          go_wp2_with fail
          refine (HRr.out V2).mono ?_
          rintro e W7 ⟨u7, j, rfl, hj1, hj2, hown7, g7⟩
          obtain rfl := pow_one hj1 hj2 HK1.out HK2.out
          obtain ⟨q7, c7, rfl, _, _⟩ := own_shape hown7
          have HLI := Lib.hid (list6_ok (HRW.out.gr g7) (reads_own hown7) (by rw [zK_len, growB_len]; have := H64.out; omega))
          have G7 := Lib.hid (GW.out.trans g7)
          have k0 := Gr.cell g7 u0
          have k1 := Gr.cell g7 u1
          clear hj1 hj2 hown7
          go_wp2_with fail
          refine HLI.out.mono ?_
          rintro e W8 ⟨rfl, g8⟩
          have G8 := Lib.hid (G7.out.trans g8)
          replace k0 := Gr.cell g8 k0
          replace k1 := Gr.cell g8 k1
          go_wp2_with fail
          refine (HRt.out W8).mono ?_
          rintro e W9 ⟨rfl, g9⟩
          have G9 := Lib.hid (G8.out.trans g9)
          have HI := Lib.hid (int6_ok mt W9)
          go_wp2_with fail
          refine HI.out.mono ?_
          rintro e W10 ⟨rfl, rfl⟩
          go_wp2_with fail
          rcases HNE.out with ⟨hne0, hne1⟩ | ⟨hne0, hne1⟩
          · have HRB := Lib.hid (fun W (g : Gr w W) => races_bad ns (.slice p n cap) W (HV.out.gr g) hne0)
            have HRN := Lib.hid (fun W (g : Gr w W) => refNm6_c ns (.slice p n cap) W (HV.out.gr g))
            have z1 : (namesE ns != 0) = true := bne_iff_ne.2 hne0
            have HRU := Lib.hid (fun W => run_err (namesE ns) hne0 (.slice none 0 0) W)
            generalize namesE ns = ze at *
            clear hne0 hne1
            go_wp2_with fail
            refine (HRB.out _ G9.out).mono ?_
            rintro e Wa ⟨rfl, ga⟩
            have GA := Lib.hid (Gr.trans G9.out ga)
            go_wp2_with fail
            refine (HRN.out _ GA.out).mono ?_
            rintro e Wb ⟨rfl, gb⟩
            have GB := Lib.hid (Gr.trans GA.out gb)
            go_wp2_with fail
            refine (HRU.out _).mono ?_
            rintro e Wc ⟨rfl, rfl⟩
            go_wp2_with fail
            go_ret
            exact ⟨rfl, GB.out⟩
          · have HRB := Lib.hid (fun W (g : Gr w W) => races_all ns (.slice p n cap) W (HV.out.gr g) hne0)
            have HRN := Lib.hid (fun W (g : Gr w W) => refNm6_c ns (.slice p n cap) W (HV.out.gr g))
            have HRF := Lib.hid (fun W (g : Gr w W) => refRaces_c ns (.slice p n cap) W (HV.out.gr g) (namesE_zero hne0))
            rw [hne0] at HRN
            clear hne0 hne1
            go_wp2_with fail
            refine (HRB.out _ G9.out).mono ?_
            rintro e Wa ⟨qa, ka, Na, ca, rfl, hka1, hka2, hkl, hkN, hRS, ga⟩
            have HK1 := Lib.hid hka1
            have HK2 := Lib.hid hka2
            have HKL := Lib.hid hkl
            have HKN := Lib.hid hkN
            have HRS := Lib.hid hRS
            clear hka1 hka2 hkl hkN hRS
            have GA := Lib.hid (Gr.trans G9.out ga)
            go_wp2_with fail
            refine (HRN.out _ GA.out).mono ?_
            rintro e Wb ⟨rfl, gb⟩
            have GB := Lib.hid (Gr.trans GA.out gb)
            go_wp2_with fail
            refine (HRF.out _ GB.out).mono ?_
            rintro e Wc ⟨ub, kb, Nb, rfl, hkb1, hkb2, hkl2, hNb, hown, gc⟩
            obtain rfl := pow_one hkb1 hkb2 HK1.out HK2.out
            have hNN := ref_len hown
            rw [HKL.out] at hNN
            subst hNN
            obtain ⟨qb, cb, rfl, _, _⟩ := own_shape hown
            have HRU := Lib.hid (run_ok (c1 := ca) (c2 := cb) (HRS.out.gr (gb.trans gc)) (RaS.of_own hown HKL.out) HKL.out (by have := HKN.out; omega))
            have GC := Lib.hid (Gr.trans GB.out gc)
            clear hkb1 hkb2 hkl2 hown
            go_wp2_with fail
            refine HRU.out.mono ?_
            rintro e Wd ⟨rfl, gd⟩
            go_wp2_with fail
            go_ret
            exact ⟨rfl, GC.out.trans gd⟩
        · have t1 : (two != 0) = true := bne_iff_ne.2 h2
          have t2 : (two == 0) = false := beq_eq_false_iff_ne.2 h2
          have HMt := Lib.hid (fun W => HMB.out W h2)
          have HI := Lib.hid (fun W => int6_err two 0 h2 W)
          clear h2
          go_wp2_with fail
          refine (HBr.out wr).mono ?_
          rintro e W4 ⟨v4, k, rfl, hk1, hk2, hown4, g4⟩
          have HK1 := Lib.hid hk1
          have HK2 := Lib.hid hk2
          have HO4 := Lib.hid hown4
          have H64 : Hid (2 ^ k ≤ 128) := by rw [Hid]; have := HN0.out; omega
          clear hk1 hk2 hown4
          obtain ⟨q4, c4, rfl, _, _⟩ := own_shape HO4.out
          have HRD := Lib.hid (reads_own HO4.out)
          have c03 := Gr.cell g4 b03
          have c13 := Gr.cell g4 b13
          have G4 := Lib.hid (G3.out.trans g4)
          go_wp2_with fail
          refine (HMt.out W4).mono ?_
          rintro e W5 ⟨rfl, g5⟩
          have c05 := Gr.cell g5 c03
          have c15 := Gr.cell g5 c13
          have G5 := Lib.hid (G4.out.trans g5)
          go_wp2_with fail
          refine (HO.out W5).mono ?_
          rintro e W6 ⟨rfl, rfl⟩
          obtain ⟨W6, rfl⟩ : ∃ W6, W6 = W5 := ⟨_, rfl⟩
          have G6 := Lib.hid G5.out
          have c04 := c05
          have c14 := c15
          have HR5 := Lib.hid (HRD.out.gr g5)
          clear c05 c15 b03 b13 c03 c13
          go_wp2_with fail
          refine wp_region_held_drew (S := (fun w' => w'.cell? ⟨w.heap.size, 0, none⟩ = some (.int .i64 x) ∧ w'.cell? ⟨w.heap.size, 1, none⟩ = some (.int .i64 y))) (by kernel_rfl) ⟨c04, c14⟩ (fun hHeld => ?_)
          have GV := Lib.hid (Gr.drew G6.out)
          have HRV : Hid (ReadsI W6.drew (.slice q4 (2 ^ k) c4) (zK n0 (growB k))) := HR5.out.gr (Gr.drew (Gr.refl W6))
          have v0 : W6.drew.cell? _ = _ := c04
          have v1 : W6.drew.cell? _ = _ := c14
          generalize hVV : W6.drew = V at *
          clear hVV
          refine wpAnyH_take (i := 0) (v := (.pointer (some ⟨w.heap.size, 0, none⟩))) (op_at rfl) (by kernel_rfl) (by kernel_rfl) (by kernel_rfl) (fun _ _ _ h => h) (Or.inl ⟨rfl, fun w hSw => ?_⟩) (by assumption) ?_
          · (try dsimp only at hSw); go_simp; try with_reducible rfl
          (try simp only [Act.put, List.setIfInBounds_toArray, List.set_cons_zero, List.set_cons_succ])
          refine wpAnyH_take (i := 1) (v := (.int .i64 x)) (op_at rfl) (by kernel_rfl) (by kernel_rfl) (by kernel_rfl) (fun _ _ _ h => h) (Or.inl ⟨rfl, fun w hSw => ?_⟩) (by assumption) ?_
          · (try dsimp only at hSw); go_simp; try with_reducible rfl
          (try simp only [Act.put, List.setIfInBounds_toArray, List.set_cons_zero, List.set_cons_succ])
          refine wpAnyH_take (i := 2) (v := (.int .i64 n0)) (op_at rfl) (by kernel_rfl) (by kernel_rfl) (by kernel_rfl) (fun _ _ _ h => h) (Or.inl ⟨rfl, fun w hSw => ?_⟩) (by assumption) ?_
          · (try dsimp only at hSw); go_simp; try with_reducible rfl
          (try simp only [Act.put, List.setIfInBounds_toArray, List.set_cons_zero, List.set_cons_succ])
          refine wpAnyH_take (i := 4) (v := (.pointer (some ⟨w.heap.size, 1, none⟩))) (op_at rfl) (by kernel_rfl) (by kernel_rfl) (by kernel_rfl) (fun _ _ _ h => h) (Or.inl ⟨rfl, fun w hSw => ?_⟩) (by assumption) ?_
          · (try dsimp only at hSw); go_simp; try with_reducible rfl
          (try simp only [Act.put, List.setIfInBounds_toArray, List.set_cons_zero, List.set_cons_succ])
          refine wpAnyH_take (i := 5) (v := (.int .i64 y)) (op_at rfl) (by kernel_rfl) (by kernel_rfl) (by kernel_rfl) (fun _ _ _ h => h) (Or.inl ⟨rfl, fun w hSw => ?_⟩) (by assumption) ?_
          · (try dsimp only at hSw); go_simp; try with_reducible rfl
          (try simp only [Act.put, List.setIfInBounds_toArray, List.set_cons_zero, List.set_cons_succ])
          refine wpAnyH_take (i := 6) (v := (.int .i64 n0)) (op_at rfl) (by kernel_rfl) (by kernel_rfl) (by kernel_rfl) (fun _ _ _ h => h) (Or.inl ⟨rfl, fun w hSw => ?_⟩) (by assumption) ?_
          · (try dsimp only at hSw); go_simp; try with_reducible rfl
          (try simp only [Act.put, List.setIfInBounds_toArray, List.set_cons_zero, List.set_cons_succ])
          refine wpAnyH_take (i := 11) (v := (.pointer (some ⟨w.heap.size, 0, none⟩))) (op_at rfl) (by kernel_rfl) (by kernel_rfl) (by kernel_rfl) (fun _ _ _ h => h) (Or.inl ⟨rfl, fun w hSw => ?_⟩) (by assumption) ?_
          · (try dsimp only at hSw); go_simp; try with_reducible rfl
          (try simp only [Act.put, List.setIfInBounds_toArray, List.set_cons_zero, List.set_cons_succ])
          refine wpAnyH_take (i := 12) (v := (.int .i64 x)) (op_at rfl) (by kernel_rfl) (by kernel_rfl) (by kernel_rfl) (fun _ _ _ h => h) (Or.inl ⟨rfl, fun w hSw => ?_⟩) (by assumption) ?_
          · (try dsimp only at hSw); go_simp; try with_reducible rfl
          (try simp only [Act.put, List.setIfInBounds_toArray, List.set_cons_zero, List.set_cons_succ])
          refine wpAnyH_take (i := 13) (v := (.pointer (some ⟨w.heap.size, 1, none⟩))) (op_at rfl) (by kernel_rfl) (by kernel_rfl) (by kernel_rfl) (fun _ _ _ h => h) (Or.inl ⟨rfl, fun w hSw => ?_⟩) (by assumption) ?_
          · (try dsimp only at hSw); go_simp; try with_reducible rfl
          (try simp only [Act.put, List.setIfInBounds_toArray, List.set_cons_zero, List.set_cons_succ])
          refine wpAnyH_take (i := 14) (v := (.int .i64 y)) (op_at rfl) (by kernel_rfl) (by kernel_rfl) (by kernel_rfl) (fun _ _ _ h => h) (Or.inl ⟨rfl, fun w hSw => ?_⟩) (by assumption) ?_
          · (try dsimp only at hSw); go_simp; try with_reducible rfl
          (try simp only [Act.put, List.setIfInBounds_toArray, List.set_cons_zero, List.set_cons_succ])
          refine wpAnyH_take (i := 15) (v := (.bool (x == y))) (op_at rfl) (by kernel_rfl) (by kernel_rfl) (by kernel_rfl) (fun _ _ _ h => h) (Or.inl ⟨rfl, fun w hSw => ?_⟩) (by assumption) ?_
          · (try dsimp only at hSw); go_simp; try with_reducible rfl
          (try simp only [Act.put, List.setIfInBounds_toArray, List.set_cons_zero, List.set_cons_succ])
          refine wpAnyH_ready (rs := [3]) (by kernel_rfl) (by simp) (AllReadyH.cons (op_at rfl) (fun K hK => ?_) AllReadyH.nil)
          go_simp
          refine (HOx.out _).mono ?_
          rintro e w8 ⟨rfl, rfl⟩
          go_wp2_with fail
          refine hK.out _ _ ⟨v0, v1⟩ (fun hHeld => ?_)
          clear hK K
          (try simp only [Act.put, List.setIfInBounds_toArray, List.set_cons_zero, List.set_cons_succ])
          refine wpAnyH_ready (rs := [7]) (by kernel_rfl) (by simp) (AllReadyH.cons (op_at rfl) (fun K hK => ?_) AllReadyH.nil)
          go_simp
          refine (HOy.out _).mono ?_
          rintro e w8 ⟨rfl, rfl⟩
          go_wp2_with fail
          refine hK.out _ _ ⟨v0, v1⟩ (fun hHeld => ?_)
          clear hK K
          (try simp only [Act.put, List.setIfInBounds_toArray, List.set_cons_zero, List.set_cons_succ])
          refine wpAnyH_take (i := 8) (v := (.int .i64 es)) (op_at rfl) (by kernel_rfl) (by kernel_rfl) (by kernel_rfl) (fun _ _ _ h => h) (Or.inl ⟨rfl, fun w hSw => ?_⟩) (by assumption) ?_
          · (try dsimp only at hSw); go_simp; try with_reducible rfl
          (try simp only [Act.put, List.setIfInBounds_toArray, List.set_cons_zero, List.set_cons_succ])
          refine wpAnyH_take (i := 9) (v := (.bool (es != 0))) (op_at rfl) (by kernel_rfl) (by kernel_rfl) (by kernel_rfl) (fun _ _ _ h => h) (Or.inl ⟨rfl, fun w hSw => ?_⟩) (by assumption) ?_
          · (try dsimp only at hSw); go_simp; try with_reducible rfl
          (try simp only [Act.put, List.setIfInBounds_toArray, List.set_cons_zero, List.set_cons_succ])
          refine wpAnyH_ready (rs := [10]) (by kernel_rfl) (by simp) (AllReadyH.cons (op_at rfl) (fun K hK => ?_) AllReadyH.nil)
          go_simp
          refine (H10.out _).mono ?_
          rintro e w8 ⟨rfl, rfl⟩
          go_wp2_with fail
          refine hK.out _ _ ⟨v0, v1⟩ (fun hHeld => ?_)
          clear hK K
          (try simp only [Act.put, List.setIfInBounds_toArray, List.set_cons_zero, List.set_cons_succ])
          refine wpAnyH_ready (rs := [16]) (by kernel_rfl) (by simp) (AllReadyH.cons (op_at rfl) (fun K hK => ?_) AllReadyH.nil)
          go_simp
          refine (H9.out _).mono ?_
          rintro e w8 ⟨rfl, rfl⟩
          go_wp2_with fail
          refine hK.out _ _ ⟨v0, v1⟩ (fun hHeld => ?_)
          clear hK K
          (try simp only [Act.put, List.setIfInBounds_toArray, List.set_cons_zero, List.set_cons_succ])
          have gv := (Gr.refl V).alloc (.cells #[.int .i64 e10, .int .i64 e9] 3)
          have u0 := Gr.cell gv v0
          have u1 := Gr.cell gv v1
          have GW := Lib.hid (Gr.trans GV.out gv)
          have HRW := Lib.hid (HRV.out.gr gv)
          refine wpAnyH_ready (rs := [17]) (by kernel_rfl) (by simp) (AllReadyH.cons (op_at rfl) (fun K hK => ?_) AllReadyH.nil)
          go_simp
          refine hK.out _ _ ⟨u0, u1⟩ (fun hHeld => ?_)
          clear hK K
          (try simp only [Act.put, List.setIfInBounds_toArray, List.set_cons_zero, List.set_cons_succ])
          have HF1 := HFI.out V.heap.size 2 (V.alloc (.cells #[.int .i64 e10, .int .i64 e9] 3)) (cell_new V #[.int .i64 e10, .int .i64 e9] 3 0 (by simp)) (cell_new V #[.int .i64 e10, .int .i64 e9] 3 1 (by simp))
          have HF1 := Lib.hid HF1
          generalize hVV : V.alloc (.cells #[.int .i64 e10, .int .i64 e9] 3) = V2 at *
          clear hVV
          refine wpAnyH_ready (rs := [18]) (by kernel_rfl) (by simp) (AllReadyH.cons (op_at rfl) (fun K hK => ?_) AllReadyH.nil)
          go_simp
          refine HF1.out.mono ?_
          rintro e w8 ⟨rfl, rfl⟩
          go_wp2_with fail
          refine hK.out _ _ ⟨u0, u1⟩ (fun hHeld => ?_)
          clear hK K
          (try simp only [Act.put, List.setIfInBounds_toArray, List.set_cons_zero, List.set_cons_succ])
          refine wpAnyH_take (i := 19) (v := (.int .i64 two)) (op_at rfl) (by kernel_rfl) (by kernel_rfl) (by kernel_rfl) (fun _ _ _ h => h) (Or.inl ⟨rfl, fun w hSw => ?_⟩) (by assumption) ?_
          · (try dsimp only at hSw); go_simp; try with_reducible rfl
          (try simp only [Act.put, List.setIfInBounds_toArray, List.set_cons_zero, List.set_cons_succ])
          refine wpAnyH_done (by kernel_rfl) ?_ _
          go_wp2_with fail
          refine (HRr.out V2).mono ?_
          rintro e W7 ⟨u7, j, rfl, hj1, hj2, hown7, g7⟩
          obtain rfl := pow_one hj1 hj2 HK1.out HK2.out
          obtain ⟨q7, c7, rfl, _, _⟩ := own_shape hown7
          have HLI := Lib.hid (list6_ok (HRW.out.gr g7) (reads_own hown7) (by rw [zK_len, growB_len]; have := H64.out; omega))
          have G7 := Lib.hid (GW.out.trans g7)
          have k0 := Gr.cell g7 u0
          have k1 := Gr.cell g7 u1
          clear hj1 hj2 hown7
          go_wp2_with fail
          refine HLI.out.mono ?_
          rintro e W8 ⟨rfl, g8⟩
          have G8 := Lib.hid (G7.out.trans g8)
          replace k0 := Gr.cell g8 k0
          replace k1 := Gr.cell g8 k1
          go_wp2_with fail
          refine (HI.out W8).mono ?_
          rintro e W9 ⟨rfl, rfl⟩
          go_wp2_with fail
          rcases HNE.out with ⟨hne0, hne1⟩ | ⟨hne0, hne1⟩
          · have HRB := Lib.hid (fun W (g : Gr w W) => races_bad ns (.slice p n cap) W (HV.out.gr g) hne0)
            have HRN := Lib.hid (fun W (g : Gr w W) => refNm6_c ns (.slice p n cap) W (HV.out.gr g))
            have z1 : (namesE ns != 0) = true := bne_iff_ne.2 hne0
            have HRU := Lib.hid (fun W => run_err (namesE ns) hne0 (.slice none 0 0) W)
            generalize namesE ns = ze at *
            clear hne0 hne1
            go_wp2_with fail
            refine (HRB.out _ G8.out).mono ?_
            rintro e Wa ⟨rfl, ga⟩
            have GA := Lib.hid (Gr.trans G8.out ga)
            go_wp2_with fail
            refine (HRN.out _ GA.out).mono ?_
            rintro e Wb ⟨rfl, gb⟩
            have GB := Lib.hid (Gr.trans GA.out gb)
            go_wp2_with fail
            refine (HRU.out _).mono ?_
            rintro e Wc ⟨rfl, rfl⟩
            go_wp2_with fail
            go_ret
            exact ⟨rfl, GB.out⟩
          · have HRB := Lib.hid (fun W (g : Gr w W) => races_all ns (.slice p n cap) W (HV.out.gr g) hne0)
            have HRN := Lib.hid (fun W (g : Gr w W) => refNm6_c ns (.slice p n cap) W (HV.out.gr g))
            have HRF := Lib.hid (fun W (g : Gr w W) => refRaces_c ns (.slice p n cap) W (HV.out.gr g) (namesE_zero hne0))
            rw [hne0] at HRN
            clear hne0 hne1
            go_wp2_with fail
            refine (HRB.out _ G8.out).mono ?_
            rintro e Wa ⟨qa, ka, Na, ca, rfl, hka1, hka2, hkl, hkN, hRS, ga⟩
            have HK1 := Lib.hid hka1
            have HK2 := Lib.hid hka2
            have HKL := Lib.hid hkl
            have HKN := Lib.hid hkN
            have HRS := Lib.hid hRS
            clear hka1 hka2 hkl hkN hRS
            have GA := Lib.hid (Gr.trans G8.out ga)
            go_wp2_with fail
            refine (HRN.out _ GA.out).mono ?_
            rintro e Wb ⟨rfl, gb⟩
            have GB := Lib.hid (Gr.trans GA.out gb)
            go_wp2_with fail
            refine (HRF.out _ GB.out).mono ?_
            rintro e Wc ⟨ub, kb, Nb, rfl, hkb1, hkb2, hkl2, hNb, hown, gc⟩
            obtain rfl := pow_one hkb1 hkb2 HK1.out HK2.out
            have hNN := ref_len hown
            rw [HKL.out] at hNN
            subst hNN
            obtain ⟨qb, cb, rfl, _, _⟩ := own_shape hown
            have HRU := Lib.hid (run_ok (c1 := ca) (c2 := cb) (HRS.out.gr (gb.trans gc)) (RaS.of_own hown HKL.out) HKL.out (by have := HKN.out; omega))
            have GC := Lib.hid (Gr.trans GB.out gc)
            clear hkb1 hkb2 hkl2 hown
            go_wp2_with fail
            refine HRU.out.mono ?_
            rintro e Wd ⟨rfl, gd⟩
            go_wp2_with fail
            go_ret
            exact ⟨rfl, GC.out.trans gd⟩
      · have HBr := Lib.hid (fun W => bracket_bad n0 hb W)
        have hme : meetE n0 x y = outE n0 1 64 := by rw [meetE, if_pos hb]
        have HMt0 := fun W => meet_bad n0 x y (by rw [hme]; exact hb) W
        rw [hme] at HMt0
        have HMt := Lib.hid HMt0
        have HI := Lib.hid (fun W => int6_err (outE n0 1 64) 0 hb W)
        have HL := Lib.hid (fun W => list6_err (outE n0 1 64) hb W)
        have t1 : (outE n0 1 64 != 0) = true := bne_iff_ne.2 hb
        clear HMt0 hme hb
        generalize outE n0 1 64 = z at *
        go_wp2_with fail
        refine (HBr.out wr).mono ?_
        rintro e W4 ⟨rfl, g4⟩
        have c03 := Gr.cell g4 b03
        have c13 := Gr.cell g4 b13
        have G4 := Lib.hid (G3.out.trans g4)
        go_wp2_with fail
        refine (HMt.out W4).mono ?_
        rintro e W5 ⟨rfl, g5⟩
        have G5 := Lib.hid (G4.out.trans g5)
        go_wp2_with fail
        refine (HO.out W5).mono ?_
        rintro e W6 ⟨rfl, rfl⟩
        go_wp2_with fail
        refine (HL.out _).mono ?_
        rintro e W6 ⟨rfl, rfl⟩
        go_wp2_with fail
        refine (HI.out _).mono ?_
        rintro e W6 ⟨rfl, rfl⟩
        go_wp2_with fail
        rcases HNE.out with ⟨hne0, hne1⟩ | ⟨hne0, hne1⟩
        · have HRB := Lib.hid (fun W (g : Gr w W) => races_bad ns (.slice p n cap) W (HV.out.gr g) hne0)
          have HRN := Lib.hid (fun W (g : Gr w W) => refNm6_c ns (.slice p n cap) W (HV.out.gr g))
          have z1 : (namesE ns != 0) = true := bne_iff_ne.2 hne0
          have HRU := Lib.hid (fun W => run_err (namesE ns) hne0 (.slice none 0 0) W)
          generalize namesE ns = ze at *
          clear hne0 hne1
          go_wp2_with fail
          refine (HRB.out _ G5.out).mono ?_
          rintro e Wa ⟨rfl, ga⟩
          have GA := Lib.hid (Gr.trans G5.out ga)
          go_wp2_with fail
          refine (HRN.out _ GA.out).mono ?_
          rintro e Wb ⟨rfl, gb⟩
          have GB := Lib.hid (Gr.trans GA.out gb)
          go_wp2_with fail
          refine (HRU.out _).mono ?_
          rintro e Wc ⟨rfl, rfl⟩
          go_wp2_with fail
          go_ret
          exact ⟨rfl, GB.out⟩
        · have HRB := Lib.hid (fun W (g : Gr w W) => races_all ns (.slice p n cap) W (HV.out.gr g) hne0)
          have HRN := Lib.hid (fun W (g : Gr w W) => refNm6_c ns (.slice p n cap) W (HV.out.gr g))
          have HRF := Lib.hid (fun W (g : Gr w W) => refRaces_c ns (.slice p n cap) W (HV.out.gr g) (namesE_zero hne0))
          rw [hne0] at HRN
          clear hne0 hne1
          go_wp2_with fail
          refine (HRB.out _ G5.out).mono ?_
          rintro e Wa ⟨qa, ka, Na, ca, rfl, hka1, hka2, hkl, hkN, hRS, ga⟩
          have HK1 := Lib.hid hka1
          have HK2 := Lib.hid hka2
          have HKL := Lib.hid hkl
          have HKN := Lib.hid hkN
          have HRS := Lib.hid hRS
          clear hka1 hka2 hkl hkN hRS
          have GA := Lib.hid (Gr.trans G5.out ga)
          go_wp2_with fail
          refine (HRN.out _ GA.out).mono ?_
          rintro e Wb ⟨rfl, gb⟩
          have GB := Lib.hid (Gr.trans GA.out gb)
          go_wp2_with fail
          refine (HRF.out _ GB.out).mono ?_
          rintro e Wc ⟨ub, kb, Nb, rfl, hkb1, hkb2, hkl2, hNb, hown, gc⟩
          obtain rfl := pow_one hkb1 hkb2 HK1.out HK2.out
          have hNN := ref_len hown
          rw [HKL.out] at hNN
          subst hNN
          obtain ⟨qb, cb, rfl, _, _⟩ := own_shape hown
          have HRU := Lib.hid (run_ok (c1 := ca) (c2 := cb) (HRS.out.gr (gb.trans gc)) (RaS.of_own hown HKL.out) HKL.out (by have := HKN.out; omega))
          have GC := Lib.hid (Gr.trans GB.out gc)
          clear hkb1 hkb2 hkl2 hown
          go_wp2_with fail
          refine HRU.out.mono ?_
          rintro e Wd ⟨rfl, gd⟩
          go_wp2_with fail
          go_ret
          exact ⟨rfl, GC.out.trans gd⟩
end Go.Proofs.YtjpkeolielpelaaGreatDoor
