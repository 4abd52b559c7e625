/- TopKarabinerPool: the law, walked. -/
import Derived.Test.YtaapaijdcgpdkaaGPoD
import Derived.Test.YtaapaijdcgpdkaaGPqT
namespace Go.Proofs.Ytaapaijdcgpdkaa
open Go.RowKit Go.Lib
set_option linter.unusedSimpArgs false
set_option linter.unusedVariables false
/-- all calls of karabinerDrawn() return true -/
def DrawnOK (w : World) : Prop := ∀ W, Gr w W → Calls Try.prog 9 #[] W fun e w' => e = .returned (.bool true) ∧ Gr W w'
theorem qAts_out {w : World} {p : Option Addr} {n cap : Nat} {l : List ByteArray} (h : StrAts w (.slice p n cap) l) : n = l.length ∧ (n ≤ cap ∧ cap ≤ maxLen) ∧ (0 < n → ∃ b off, p = some ⟨b, off, none⟩ ∧ ∀ i x, l[i]? = some x → StrAt w b (off + i) x) := by
  obtain ⟨⟨p', cap', e, hc, hh⟩⟩ := h
  simp only [Value.slice.injEq] at e
  obtain ⟨rfl, rfl, rfl⟩ := e
  exact ⟨rfl, hc, hh⟩
theorem qWordS_c {v : Value} {l : List ByteArray} {w : World} (h : StrAts w v l) (h1 : l.length ≤ 1000) (s : ByteArray) :
    Calls Try.prog 12 #[v, .string s] w fun e w' => e = .returned (.bool (hasS l s)) ∧ w = w' := by
  obtain ⟨⟨p, cap, rfl, _, hh⟩⟩ := h
  have := hasWordT_c l p l.length cap s w (Nat.le_refl _) h1 (fun h0 => by
    obtain ⟨b, off, e, hc⟩ := hh h0
    exact ⟨b, off, e, fun i t ht => (hc i t ht).nm⟩)
  rwa [List.take_length] at this
theorem q_apart {w : World} {b1 b2 s1 s2 n1 n2 : Nat} {T1 T2 : TypeId} {v1 v2 : Value} {l1 l2 : List Value} (h1 : w.ownsRow b1 T1 s1 v1 n1 l1) (h2 : w.ownsRow b2 T2 s2 v2 n2 l2) (hne : T1 ≠ T2) : v1.ownBlock = none ∨ v1.ownBlock ≠ v2.ownBlock := by
  rcases h1.2 with ⟨rfl, _⟩ | ⟨g, cap, cur, rfl, _, hg, _⟩
  · exact .inl rfl
  · refine .inr fun e => ?_
    rcases h2.2 with ⟨rfl, _⟩ | ⟨g2, cap2, cur2, rfl, _, hg2, _⟩
    · cases e
    · simp only [Value.ownBlock, Option.some.injEq] at e
      subst e
      rw [hg] at hg2
      cases hg2
      exact hne rfl
theorem q_own_gr {w w' : World} {b s n : Nat} {T : TypeId} {v : Value} {l : List Value} (h : w.ownsRow b T s v n l) (k : Gr w w') : w'.ownsRow b T s v n l := by
  refine ⟨h.1, ?_⟩
  rcases h.2 with hn | ⟨g, cap, cur, rfl, hb, hgg, rest⟩
  · exact .inl hn
  · exact .inr ⟨g, cap, cur, rfl, hb, k.block hgg, rest⟩
theorem q_keep {w w' : World} {row : Option Nat} {p : Addr} {v : Value} (h : w.cell? p = some v) (k : w.grownBy w' row) (hne : row ≠ some p.block) : w'.cell? p = some v := by
  obtain ⟨_, _, _, _, hold⟩ := k
  have := hold p.block (cell_lt h) hne.symm
  simp only [World.cell?] at h ⊢
  rw [this]
  exact h
theorem infoTstM : (Try.prog.info? 41).map (fun i => (i.zero, i.size, i.bytes)) = some (some (.agg #[.string ⟨#[]⟩, .int .i64 0]), 2, 24) := by kernel_rfl
theorem rev_take {xs : List TstR} {i : Nat} {y : TstR} (h : xs[xs.length - 1 - i]? = some y) (hi : i < xs.length) : tstCs (xs.reverse.take (i + 1)) = tstCs (xs.reverse.take i) ++ tstC y := by
  apply tstCs_take
  rw [List.getElem?_reverse hi]
  exact h
theorem own_slice {w : World} {b s n : Nat} {T : TypeId} {v : Value} {l : List Value} (h : w.ownsRow b T s v n l) : ∃ p c, v = .slice p n c := by
  rcases h.2 with ⟨rfl, rfl⟩ | ⟨g, cap, cur, rfl, _⟩
  · exact ⟨none, 0, rfl⟩
  · exact ⟨_, _, rfl⟩
/-- inside a day: those seen, the tests, and the pool that is gone through, in a block of its own -/
structure Inn (WX : World) (D NL : List ByteArray) (gn on k i : Nat) (sv tv : Value) (W : World) : Prop where
  os : W.ownsRow WX.heap.size 9 1 sv (k + i) (strC (D.take (k + i)))
  ot : W.ownsRow WX.heap.size 41 2 tv (k + i) (tstCs (tstK D (k + i)))
  ns : sv.ownBlock ≠ some gn
  nt : tv.ownBlock ≠ some gn
  lt : gn < W.heap.size
  cs : ∀ (j : Nat) (s : ByteArray), NL[j]? = some s → W.cell? ⟨gn, on + j, none⟩ = some (.string s)
  gr : Gr WX W
theorem Inn.mid {WX : World} {D NL : List ByteArray} {gn on k i : Nat} {sv tv : Value} {W w1 : World} {c : Array Value} (h : Inn WX D NL gn on k i sv tv W) (hg : (W.alloc (.cells c 9)).grownBy w1 sv.ownBlock) : w1.ownsRow WX.heap.size 41 2 tv (k + i) (tstCs (tstK D (k + i))) :=
  (h.ot.alloc _).kept hg (q_apart (h.ot.alloc (.cells c 9)) (h.os.alloc _) (by decide))
theorem grown_size {w w' : World} {row : Option Nat} (h : w.grownBy w' row) : w.heap.size ≤ w'.heap.size := by
  obtain ⟨_, _, _, h4, _⟩ := h
  exact h4
theorem Inn.step {WX : World} {D NL : List ByteArray} {gn on k i r : Nat} {sv tv v1 v2 : Value} {W w1 w2 : World} {x : ByteArray} {c c2 : Array Value} (h : Inn WX D NL gn on k i sv tv W) (hx : D[k + i]? = some x) (hr : (k + i) / 2 = r)
    (hg1 : (W.alloc (.cells c 9)).grownBy w1 sv.ownBlock) (ho1 : w1.ownsRow WX.heap.size 9 1 v1 (k + i + 1) (strC (D.take (k + i)) ++ [.string x])) (ha1 : v1.ownBlock = sv.ownBlock ∨ v1.ownBlock = some (W.alloc (.cells c 9)).heap.size)
    (hg2 : (w1.alloc (.cells c2 41)).grownBy w2 tv.ownBlock) (ho2 : w2.ownsRow WX.heap.size 41 2 v2 (k + i + 1) (tstCs (tstK D (k + i)) ++ tstC ⟨x, 100 + (r : Int)⟩)) (ha2 : v2.ownBlock = tv.ownBlock ∨ v2.ownBlock = some (w1.alloc (.cells c2 41)).heap.size) :
    Inn WX D NL gn on k (i + 1) v1 v2 w2 := by
  have hs1 := grown_size hg1
  have hs2 := grown_size hg2
  rw [World.size_alloc] at hs1 hs2
  rw [World.size_alloc] at ha1 ha2
  have hl := h.lt
  have hgl := h.gr.size
  refine ⟨?_, ?_, ?_, ?_, by omega, fun j s hj => ?_, ?_⟩
  · have e : strC (D.take (k + (i + 1))) = strC (D.take (k + i)) ++ [.string x] := by
      rw [show k + (i + 1) = k + i + 1 by omega, List.take_add_one, hx]
      simp [strC]
    rw [e]
    exact (ho1.alloc _).kept hg2 (q_apart (ho1.alloc (.cells c2 41)) ((h.mid hg1).alloc _) (by decide))
  · rw [show k + (i + 1) = k + i + 1 by omega, tstK_succ, tstCs_add, getD_of hx, hr]
    exact ho2
  · rcases ha1 with e | e <;> rw [e]
    · exact h.ns
    · simp; omega
  · rcases ha2 with e | e <;> rw [e]
    · exact h.nt
    · simp; omega
  · have c0 := ((Gr.refl W).alloc (.cells c 9)).cell (h.cs j s hj)
    have c1 := q_keep c0 hg1 h.ns
    have c3 := ((Gr.refl w1).alloc (.cells c2 41)).cell c1
    exact q_keep c3 hg2 h.nt
  · have g1 : Gr WX w1 := Below.grown (h.gr.alloc (.cells c 9)) hg1 (by rw [World.size_alloc]; omega) (fun j hj => (h.os.lt j hj).1)
    exact Below.grown (g1.alloc (.cells c2 41)) hg2 (by rw [World.size_alloc]; omega) (fun j hj => ((h.mid hg1).lt j hj).1)
set_option maxHeartbeats 4000000 in
set_option maxRecDepth 100000 in
theorem lawPool_c (I : InsSOK) (cs : List ByteArray) (xs : List TstR) (vc v : Value) (c sp key : Int) (w : World) (hcs : StrAts w vc cs) (h : TstAts w v xs) (hb : xs.length * 24 ≤ 140737488355328) (hA : DrawnOK w) :
    Calls Try.prog 3 #[vc, v, .agg #[.int .i64 c, .int .i64 sp, .int .i64 key]] w fun e w' => e = .returned (.bool true) ∧ Gr w w' := by
  obtain ⟨iS, hiS, hzS0, hzS1, hzS2⟩ := info_parts infoStrN
  obtain ⟨iT, hiT, hzT0, hzT1, hzT2⟩ := info_parts infoTstM
  have HA := Lib.hid hA
  have HCv := Lib.hid (fun W (g : Gr w W) => kTsts_c (h.gr g) hb)
  have HSH := Lib.hid (fun W u (h1 : StrAts W vc cs) (h2 : TstAts W u xs) => shortTsts_c h1 h2)
  have HCL := Lib.hid (fun W (h1 : StrAts W vc cs) => refList_c h1)
  have HCT := Lib.hid (fun W u (h2 : TstAts W u xs) => refTsts_c h2)
  have HCP := Lib.hid (fun W => refPick_c c sp key W)
  have hB1 := listE_bnd 160 (strE cs) cs (strE_bnd cs)
  have hB2 := listE_bnd 256 (tstE xs) xs (tstE_bnd xs)
  have HPG := Lib.hid (fun (c sp d : Int) (k : Nat) W (g : Gr w W) ys u (hu : TstAts W u ys) h0 h20 => pool_goodF I (cs := cs) (xs := ys) c sp k d (hcs.gr g) hu h0 h20)
  have HCS := Lib.hid hcs
  have HTS := Lib.hid h
  have HWC := Lib.hid (fun W (g : Gr w W) h1 s => qWordS_c (hcs.gr g) h1 s)
  obtain ⟨n, hn⟩ : ∃ n, n = cs.length := ⟨_, rfl⟩
  obtain ⟨m, hm⟩ : ∃ m, m = xs.length := ⟨_, rfl⟩
  obtain ⟨p, cap, rfl, hcc⟩ : ∃ p cap, vc = .slice p n cap ∧ (0 < n → ∃ b off, p = some ⟨b, off, none⟩ ∧ ∀ i x, cs[i]? = some x → StrAt w b (off + i) x) := by
    obtain ⟨⟨p, cap, rfl, _, hh⟩⟩ := hcs
    exact ⟨p, cap, by rw [hn], fun h0 => hh (by omega)⟩
  obtain ⟨pt, capt, rfl, ht⟩ : ∃ p cap, v = .slice p m cap ∧ (0 < m → ∃ b off, p = some ⟨b, off, none⟩ ∧ ∀ i x, xs[i]? = some x → TstAt w b (off + i * 2) x) := by
    obtain ⟨⟨p, cap, rfl, _, hh⟩⟩ := h
    exact ⟨p, cap, by rw [hm], fun h0 => hh (by omega)⟩
  have HT := Lib.hid ht
  have HC := Lib.hid hcc
  have HN := Lib.hid hn
  have HM := Lib.hid hm
  obtain ⟨W0, hW0, g, b0, b1, b2⟩ := box3 w (.int .i64 c) (.int .i64 sp) (.int .i64 key) 25
  have HW0 := Lib.hid hW0
  clear hA hcs h hb hn hm hW0 I ht hcc
  go_enter Try.func3, Try.ntmps3
  go_wp2_with fail
  rw [HW0.out]
  clear HW0
  generalize w.heap.size = Bx at *
  refine (HCv.out _ g).mono ?_
  rintro e W1 ⟨u, rfl, hu, hg⟩
  replace b0 := hg.cell b0
  replace b1 := hg.cell b1
  replace b2 := hg.cell b2
  replace g := g.trans hg
  clear hg
  obtain ⟨pu, nu, cu, rfl⟩ : ∃ p n c, u = .slice p n c := by
    obtain ⟨⟨p, cap, rfl, _⟩⟩ := hu
    exact ⟨p, _, cap, rfl⟩
  cases h12 : decide ((8 : Int) < n)
  case true =>
    go_wp2_with fail
    refine (HA.out _ g).mono ?_
    rintro e Wa ⟨rfl, g4⟩
    go_wp2_with fail
    go_ret
    exact ⟨rfl, g.trans g4⟩
  cases h20 : decide ((12 : Int) < m)
  case true =>
    go_wp2_with fail
    refine (HA.out _ g).mono ?_
    rintro e Wa ⟨rfl, g4⟩
    go_wp2_with fail
    go_ret
    exact ⟨rfl, g.trans g4⟩
  go_wp2_with fail
  refine (HSH.out _ _ (HCS.out.gr g) hu).mono ?_
  rintro e W3 ⟨⟨r, rfl, hr⟩, rfl⟩
  clear hr
  cases r
  · go_wp2_with fail
    refine (HA.out _ g).mono ?_
    rintro e Wa ⟨rfl, g4⟩
    go_wp2_with fail
    go_ret
    exact ⟨rfl, g.trans g4⟩
  go_wp2_with fail
  refine (HCL.out _ (HCS.out.gr g)).mono ?_
  rintro e W3 ⟨rfl, hg⟩
  replace hu := hu.gr hg
  replace b0 := hg.cell b0
  replace b1 := hg.cell b1
  replace b2 := hg.cell b2
  replace g := g.trans hg
  clear hg
  go_wp2_with fail
  refine (HCT.out _ _ hu).mono ?_
  rintro e W4 ⟨rfl, hg⟩
  replace hu := hu.gr hg
  replace b0 := hg.cell b0
  replace b1 := hg.cell b1
  replace b2 := hg.cell b2
  replace g := g.trans hg
  clear hg
  clear hu HCL HCT HSH
  by_cases hz : listE 160 (strE cs) cs + listE 256 (tstE xs) xs = 0
  rotate_left
  · have hwr : IntKind.i64.wrap (listE 160 (strE cs) cs + listE 256 (tstE xs) xs) = listE 160 (strE cs) cs + listE 256 (tstE xs) xs := by rw [IntKind.wrap_i64]; omega
    clear hB1 hB2
    generalize listE 160 (strE cs) cs = z1 at *
    generalize listE 256 (tstE xs) xs = z2 at *
    generalize hzz : z1 + z2 = z at *
    have q1 : (z == 0) = false := by simpa using hz
    have q2 : (z != 0) = true := by simpa [bne] using q1
    go_wp2_with fail
    refine (HA.out _ g).mono ?_
    rintro e Wa ⟨rfl, g4⟩
    go_wp2_with fail
    go_ret
    exact ⟨rfl, g.trans g4⟩
  have hz1 : listE 160 (strE cs) cs = 0 := by omega
  have hz2 : listE 256 (tstE xs) xs = 0 := by omega
  have HZ1 := Lib.hid hz1
  have HZ2 := Lib.hid hz2
  rw [hz1, hz2]
  clear hz hz1 hz2 hB1 hB2
  go_wp2_with fail
  refine (HCP.out _).mono ?_
  rintro e W5 ⟨rfl, hg⟩
  replace b0 := hg.cell b0
  replace b1 := hg.cell b1
  replace b2 := hg.cell b2
  replace g := g.trans hg
  clear hg
  clear HCP
  by_cases hz : pickE c sp key = 0
  rotate_left
  · generalize pickE c sp key = z at *
    have q1 : (z == 0) = false := by simpa using hz
    have q2 : (z != 0) = true := by simpa [bne] using q1
    go_wp2_with fail
    refine (HA.out _ g).mono ?_
    rintro e Wa ⟨rfl, g4⟩
    go_wp2_with fail
    go_ret
    exact ⟨rfl, g.trans g4⟩
  have HZ3 := Lib.hid hz
  rw [hz]
  clear hz
  have hpz := pickE_zero HZ3.out
  obtain ⟨k1, k2⟩ := hpz.2.2
  clear hpz
  have n12 : n ≤ 8 := by
    have := of_decide_eq_false h12
    omega
  have m20 : m ≤ 12 := by
    have := of_decide_eq_false h20
    omega
  clear h12 h20
  obtain ⟨kn, hkn⟩ : ∃ k : Nat, key = k := ⟨key.toNat, by omega⟩
  subst hkn
  have HDG := Lib.hid (fun W => draw_good kn n W (by omega) (by omega) (by omega))
  have HKD : Hid (drawE (kn : Int) 0 = 0) := firstE_zero (show firstE [outE c 0 160, outE sp 0 99999, drawE (kn : Int) 0] = 0 from HZ3.out) (drawE (kn : Int) 0) (by simp)
  have hlen : (drawnS kn cs).length = n := by rw [drawnS_len]; exact HN.out.symm
  have HLEN := Lib.hid hlen
  have HAT := Lib.hid (fun i (hi : i < n) (hs : (drawN kn n).size = n) => by
    have e := HN.out
    have := drawnS_at (key := kn) (cs := cs) (i := i) (by omega) (by rw [← e]; exact hs)
    rw [← e] at this
    exact this)
  have HND := Lib.hid (names_nodup HZ1.out)
  have HP0 := Lib.hid (fun W (g : Gr w W) => HPG.out (n : Int) 0 100 kn W g [] (.slice none 0 0) ⟨none, 0, rfl, ⟨by simp, by unfold maxLen; omega⟩, fun h => absurd h (by simp)⟩ (poolE_of HZ1.out rfl (by unfold pickE; rw [HKD.out, outE_zero.2 ⟨by omega, by omega⟩]; rfl) rfl) (by have := HN.out; omega))
  have hPN : poolL cs [] (n : Int) 0 kn 100 = drawnS kn cs := by rw [HN.out]; exact pool_none cs kn 100
  rw [hPN] at HP0
  clear hPN k1 k2 hlen
  go_wp2_with fail
  refine (HDG.out _).mono ?_
  rintro e W6 ⟨rfl, hrow, hsz, hg⟩
  replace b0 := hg.cell b0
  replace b1 := hg.cell b1
  replace b2 := hg.cell b2
  replace g := g.trans hg
  clear hg
  generalize W5.heap.size = Dr at *
  obtain ⟨W8, hW8, gW8, t0, t1, t2⟩ := box3 W6 (.int .i64 (n : Int)) (.int .i64 0) (.int .i64 (kn : Int)) 25
  have e0 := gW8.cell b0
  have e1 := gW8.cell b1
  have e2 := gW8.cell b2
  rw [← hW8] at e0 e1 e2 t0 t1 t2
  replace hrow := RowA.gr hrow gW8
  replace g := g.trans gW8
  have HW8 := Lib.hid hW8
  clear gW8 hW8
  go_wp2_with fail
  rw [HW8.out] at e0 e1 e2 t0 t1 t2 ⊢
  clear b0 b1 b2
  have b0 := e0
  have b1 := e1
  have b2 := e2
  clear e0 e1 e2 HW8 t0 t1 t2
  refine (HP0.out _ g).mono ?_
  rintro e W7 ⟨ua, rfl, hua, hg, -⟩
  replace hrow := RowA.gr hrow hg
  replace b0 := hg.cell b0
  replace b1 := hg.cell b1
  replace b2 := hg.cell b2
  replace g := g.trans hg
  clear hg
  obtain ⟨pa, ca, rfl⟩ : ∃ p c, ua = .slice p n c := by
    obtain ⟨⟨p, cap, rfl, _⟩⟩ := hua
    exact ⟨p, cap, by rw [HLEN.out]⟩
  obtain ⟨-, -, hha⟩ := qAts_out hua
  have HHA := Lib.hid hha
  have HROW := Lib.hid hrow
  have HSZ := Lib.hid hsz
  have HGT := Lib.hid g
  clear hua hha hrow hsz HP0 HDG
  go_wp2_with fail
  go_loopw [13, 14, 97] (fun xv kv iv wr => ∃ i : Nat, i ≤ n ∧ iv = .int .i64 i ∧ Gr W7 wr) (fun _ _ iv _ => n - (intOf iv).toNat)
  case atStart => exact ⟨0, Nat.zero_le _, rfl, Gr.refl _⟩
  case round =>
    obtain ⟨i, hi', rfl, hg⟩ := hrel
    by_cases hlt : i < n
    · obtain ⟨x, hdx, hx, hjl⟩ := HAT.out i hlt HSZ.out
      have hrc := (RowA.gr HROW.out hg).cell (i := i) (by rw [HSZ.out]; exact hlt)
      obtain ⟨b, off, rfl, hc⟩ := HHA.out (by omega)
      obtain ⟨c0⟩ := (hc i x hdx).gr hg
      obtain ⟨b', off', rfl, hc'⟩ := HC.out (by omega)
      obtain ⟨c0'⟩ := (hc' _ x hx).gr (HGT.out.trans hg)
      have hi2 : (i : Int) < n := by omega
      generalize (drawN kn n).getD i 0 = j at *
      have hj1 : decide ((j : Int) < 0) = false := by simp
      have hj2 : decide ((n : Int) ≤ (j : Int)) = false := by simp; omega
      have hj3 : ¬ (n : Int) ≤ (j : Int) := by omega
      have hj4 : (j : Int) < n := by omega
      clear hx hdx hc hc'
      go_wp2_with fail
      have gd := (Gr.refl wr).drew
      have kA := gd.cell c0
      have kC := gd.cell c0'
      have hgd := hg.trans gd
      clear gd
      refine wp_region_held_drew (S := (fun w' => w'.cell? ⟨b, off + i, none⟩ = some (.string x) ∧ w'.cell? ⟨b', off' + j, none⟩ = some (.string x))) (by kernel_rfl) ⟨kA, kC⟩ (fun hHeld => ?_)
      generalize wr.drew = V at *
      refine wpAnyH_take (i := 0) (v := (.int .i64 j)) (op_at rfl) (by kernel_rfl) (by kernel_rfl) (by kernel_rfl) (fun _ _ _ h => h) (Or.inl ⟨rfl, fun w hSw => ?_⟩) (by assumption) ?_
      · (try dsimp only at hSw); go_simp; try with_reducible rfl
      (try simp only [Act.put, List.setIfInBounds_toArray, List.set_cons_zero, List.set_cons_succ])
      refine wpAnyH_take (i := 1) (v := (.bool false)) (op_at rfl) (by kernel_rfl) (by kernel_rfl) (by kernel_rfl) (fun _ _ _ h => h) (Or.inl ⟨rfl, fun w hSw => ?_⟩) (by assumption) ?_
      · (try dsimp only at hSw); go_simp; try with_reducible rfl
      (try simp only [Act.put, List.setIfInBounds_toArray, List.set_cons_zero, List.set_cons_succ])
      refine wpAnyH_take (i := 2) (v := (.bool false)) (op_at rfl) (by kernel_rfl) (by kernel_rfl) (by kernel_rfl) (fun _ _ _ h => h) (Or.inl ⟨rfl, fun w hSw => ?_⟩) (by assumption) ?_
      · (try dsimp only at hSw); go_simp; try with_reducible rfl
      (try simp only [Act.put, List.setIfInBounds_toArray, List.set_cons_zero, List.set_cons_succ])
      refine wpAnyH_take (i := 3) (v := (.int .i64 j)) (op_at rfl) (by kernel_rfl) (by kernel_rfl) (by kernel_rfl) (fun _ _ _ h => h) (Or.inl ⟨rfl, fun w hSw => ?_⟩) (by assumption) ?_
      · (try dsimp only at hSw); go_simp; try with_reducible rfl
      (try simp only [Act.put, List.setIfInBounds_toArray, List.set_cons_zero, List.set_cons_succ])
      refine wpAnyH_take (i := 4) (v := (.slice (some ⟨b', off', none⟩) n cap)) (op_at rfl) (by kernel_rfl) (by kernel_rfl) (by kernel_rfl) (fun _ _ _ h => h) (Or.inl ⟨rfl, fun w hSw => ?_⟩) (by assumption) ?_
      · (try dsimp only at hSw); go_simp; try with_reducible rfl
      (try simp only [Act.put, List.setIfInBounds_toArray, List.set_cons_zero, List.set_cons_succ])
      refine wpAnyH_take (i := 5) (v := (.int .i64 n)) (op_at rfl) (by kernel_rfl) (by kernel_rfl) (by kernel_rfl) (fun _ _ _ h => h) (Or.inl ⟨rfl, fun w hSw => ?_⟩) (by assumption) ?_
      · (try dsimp only at hSw); go_simp; try with_reducible rfl
      (try simp only [Act.put, List.setIfInBounds_toArray, List.set_cons_zero, List.set_cons_succ])
      refine wpAnyH_take (i := 6) (v := (.bool false)) (op_at rfl) (by kernel_rfl) (by kernel_rfl) (by kernel_rfl) (fun _ _ _ h => h) (Or.inl ⟨rfl, fun w hSw => ?_⟩) (by assumption) ?_
      · (try dsimp only at hSw); go_simp; try with_reducible rfl
      (try simp only [Act.put, List.setIfInBounds_toArray, List.set_cons_zero, List.set_cons_succ])
      refine wpAnyH_take (i := 7) (v := (.bool false)) (op_at rfl) (by kernel_rfl) (by kernel_rfl) (by kernel_rfl) (fun _ _ _ h => h) (Or.inl ⟨rfl, fun w hSw => ?_⟩) (by assumption) ?_
      · (try dsimp only at hSw); go_simp; try with_reducible rfl
      (try simp only [Act.put, List.setIfInBounds_toArray, List.set_cons_zero, List.set_cons_succ])
      refine wpAnyH_take (i := 8) (v := (.bool false)) (op_at rfl) (by kernel_rfl) (by kernel_rfl) (by kernel_rfl) (fun _ _ _ h => h) (Or.inl ⟨rfl, fun w hSw => ?_⟩) (by assumption) ?_
      · (try dsimp only at hSw); go_simp; try with_reducible rfl
      (try simp only [Act.put, List.setIfInBounds_toArray, List.set_cons_zero, List.set_cons_succ])
      refine wpAnyH_take (i := 9) (v := (.slice (some ⟨b, off, none⟩) n ca)) (op_at rfl) (by kernel_rfl) (by kernel_rfl) (by kernel_rfl) (fun _ _ _ h => h) (Or.inl ⟨rfl, fun w hSw => ?_⟩) (by assumption) ?_
      · (try dsimp only at hSw); go_simp; try with_reducible rfl
      (try simp only [Act.put, List.setIfInBounds_toArray, List.set_cons_zero, List.set_cons_succ])
      refine wpAnyH_take (i := 10) (v := (.int .i64 i)) (op_at rfl) (by kernel_rfl) (by kernel_rfl) (by kernel_rfl) (fun _ _ _ h => h) (Or.inl ⟨rfl, fun w hSw => ?_⟩) (by assumption) ?_
      · (try dsimp only at hSw); go_simp; try with_reducible rfl
      (try simp only [Act.put, List.setIfInBounds_toArray, List.set_cons_zero, List.set_cons_succ])
      refine wpAnyH_take (i := 11) (v := (.pointer (some ⟨b, off + i, none⟩))) (op_at rfl) (by kernel_rfl) (by kernel_rfl) (by kernel_rfl) (fun _ _ _ h => h) (Or.inl ⟨rfl, fun w hSw => ?_⟩) (by assumption) ?_
      · (try dsimp only at hSw); go_simp; try with_reducible rfl
      (try simp only [Act.put, List.setIfInBounds_toArray, List.set_cons_zero, List.set_cons_succ])
      refine wpAnyH_take (i := 12) (v := (.string x)) (op_at rfl) (by kernel_rfl) (by kernel_rfl) (by kernel_rfl) (fun _ _ _ h => h) (Or.inl ⟨rfl, fun w hSw => ?_⟩) (by assumption) ?_
      · (try dsimp only at hSw); go_simp; try with_reducible rfl
      (try simp only [Act.put, List.setIfInBounds_toArray, List.set_cons_zero, List.set_cons_succ])
      refine wpAnyH_take (i := 13) (v := (.slice (some ⟨b', off', none⟩) n cap)) (op_at rfl) (by kernel_rfl) (by kernel_rfl) (by kernel_rfl) (fun _ _ _ h => h) (Or.inl ⟨rfl, fun w hSw => ?_⟩) (by assumption) ?_
      · (try dsimp only at hSw); go_simp; try with_reducible rfl
      (try simp only [Act.put, List.setIfInBounds_toArray, List.set_cons_zero, List.set_cons_succ])
      refine wpAnyH_take (i := 14) (v := (.int .i64 j)) (op_at rfl) (by kernel_rfl) (by kernel_rfl) (by kernel_rfl) (fun _ _ _ h => h) (Or.inl ⟨rfl, fun w hSw => ?_⟩) (by assumption) ?_
      · (try dsimp only at hSw); go_simp; try with_reducible rfl
      (try simp only [Act.put, List.setIfInBounds_toArray, List.set_cons_zero, List.set_cons_succ])
      refine wpAnyH_take (i := 15) (v := (.pointer (some ⟨b', off' + j, none⟩))) (op_at rfl) (by kernel_rfl) (by kernel_rfl) (by kernel_rfl) (fun _ _ _ h => h) (Or.inl ⟨rfl, fun w hSw => ?_⟩) (by assumption) ?_
      · (try dsimp only at hSw); go_simp; try with_reducible rfl
      (try simp only [Act.put, List.setIfInBounds_toArray, List.set_cons_zero, List.set_cons_succ])
      refine wpAnyH_take (i := 16) (v := (.string x)) (op_at rfl) (by kernel_rfl) (by kernel_rfl) (by kernel_rfl) (fun _ _ _ h => h) (Or.inl ⟨rfl, fun w hSw => ?_⟩) (by assumption) ?_
      · (try dsimp only at hSw); go_simp; try with_reducible rfl
      (try simp only [Act.put, List.setIfInBounds_toArray, List.set_cons_zero, List.set_cons_succ])
      refine wpAnyH_take (i := 17) (v := (.bool false)) (op_at rfl) (by kernel_rfl) (by kernel_rfl) (by kernel_rfl) (fun _ _ _ h => h) (Or.inl ⟨rfl, fun w hSw => ?_⟩) (by assumption) ?_
      · (try dsimp only at hSw); go_simp; try with_reducible rfl
      (try simp only [Act.put, List.setIfInBounds_toArray, List.set_cons_zero, List.set_cons_succ])
      refine wpAnyH_take (i := 18) (v := (.bool false)) (op_at rfl) (by kernel_rfl) (by kernel_rfl) (by kernel_rfl) (fun _ _ _ h => h) (Or.inl ⟨rfl, fun w hSw => ?_⟩) (by assumption) ?_
      · (try dsimp only at hSw); go_simp; try with_reducible rfl
      (try simp only [Act.put, List.setIfInBounds_toArray, List.set_cons_zero, List.set_cons_succ])
      refine wpAnyH_done (by kernel_rfl) ?_ _
      go_wp2_with fail
      go_roundw
      case rel => exact ⟨i + 1, by omega, by go_num, hgd⟩
      case measure => simp [intOf]; omega
    · obtain hiA : i = n := by omega
      have hnl : ¬ (i : Int) < n := by omega
      have hnl2 : decide ((i : Int) < n) = false := decide_eq_false hnl
      have hgx := hg
      clear hi' hlt HAT
      go_wp2_with fail
      have hgw := HGT.out.trans hgx
      replace b0 := hgx.cell b0
      replace b1 := hgx.cell b1
      replace b2 := hgx.cell b2
      obtain ⟨WB, rfl⟩ : ∃ X : World, X = wr := ⟨wr, rfl⟩
      clear hg hgx hnl hnl2
      have HGW := Lib.hid hgw
      go_loopw [15, 16, 124] (fun bv uv iv wr => ∃ i : Nat, i ≤ m ∧ iv = .int .i64 i ∧ wr.ownsRow WB.heap.size 41 2 bv i (tstCs (xs.reverse.take i)) ∧ Gr WB wr) (fun _ _ iv _ => m - (intOf iv).toNat)
      case atStart => exact ⟨0, Nat.zero_le _, rfl, World.ownsRow_nil _ _ _ _, Gr.refl _⟩
      case round =>
        obtain ⟨i2, hi2', rfl, hown, hg⟩ := hrel
        have hsz := hg.size
        by_cases hlt2 : i2 < m
        · obtain ⟨j, hj⟩ : ∃ j, j = m - 1 - i2 := ⟨_, rfl⟩
          obtain ⟨y, hy⟩ : ∃ y, xs[j]? = some y := ⟨xs[j]'(by have := HM.out; omega), List.getElem?_eq_getElem _⟩
          obtain ⟨bt, ot, rfl, hct⟩ := HT.out (by omega)
          obtain ⟨k0, k1⟩ := (hct j y hy).gr (HGW.out.trans hg)
          have HST := Lib.hid (rev_take (xs := xs) (i := i2) (y := y) (by rw [← HM.out, ← hj]; exact hy) (by rw [← HM.out]; exact hlt2))
          have HLn : Hid ((tstCs (xs.reverse.take i2)).length = i2 * 2) := by rw [Hid, tstCs_len, List.length_take, List.length_reverse]; have := HM.out; omega
          have hi2 : (i2 : Int) < m := by omega
          have hj1 : ((m : Int) - 1 - (i2 : Int)).toNat = j := by omega
          have hj0 : (0 : Int) ≤ (m : Int) - 1 - (i2 : Int) := by omega
          have hj2 : (m : Int) - 1 - (i2 : Int) < m := by omega
          clear hy hct hj
          go_wp2_with (first
            | (at_builtin; refine wpList_append_own _ rfl _ _ 23 rfl WB.heap.size 41 iT (.agg #[.string ⟨#[]⟩, .int .i64 0]) 2 24 Try.underlying23 hiT hzT0 hzT1 hzT2 rfl (by decide) _ _ _ rfl (hown.alloc _) ⟨wr.heap.size, 0, none⟩ 1 1 (tstC y) rfl rfl (cell_tstC _ _ _) (by intro u hu; simp [tstC] at hu; rcases hu with rfl | rfl <;> rfl) (by unfold maxLen; omega) (by omega) (by simp; omega) ?_; intro v1 w1 hown1 hgrow1 hnil1))
          go_roundw
          case rel => exact ⟨i2 + 1, by omega, by go_num, by rw [HST.out]; exact hown1, Below.grown (hg.alloc _) hgrow1 (by simp; omega) (fun j hj => (hown.lt j hj).1)⟩
          case measure => simp [intOf]; omega
        · obtain hiM : i2 = m := by omega
          have hnl : ¬ (i2 : Int) < m := by omega
          have hnl2 : decide ((i2 : Int) < m) = false := decide_eq_false hnl
          rw [List.take_of_length_le (by rw [List.length_reverse]; have := HM.out; omega), hiM] at hown
          have HLn : Hid ((tstCs xs.reverse).length = m * 2) := by rw [Hid, tstCs_len, List.length_reverse]; have := HM.out; omega
          have HPL := Lib.hid (fun W (g : Gr w W) => HPG.out c sp 60 kn W g xs _ (HTS.out.gr g) (poolE_of HZ1.out HZ2.out HZ3.out rfl) (by have := HN.out; omega))
          have HPB := Lib.hid (fun W u (g : Gr w W) hu => HPG.out c sp 60 kn W g (xs.reverse ++ [⟨nobody, 30⟩]) u hu (poolE_of HZ1.out (back_ok (by have := HM.out; omega) HZ2.out) HZ3.out rfl) (by have := HN.out; omega))
          rw [hiM]
          clear hi2' hlt2 hiM
          go_wp2_with (first
            | (at_builtin; refine wpList_append_own _ rfl _ _ 23 rfl WB.heap.size 41 iT (.agg #[.string ⟨#[]⟩, .int .i64 0]) 2 24 Try.underlying23 hiT hzT0 hzT1 hzT2 rfl (by decide) _ _ _ rfl (hown.alloc _) ⟨wr.heap.size, 0, none⟩ 1 1 (tstC ⟨nobody, 30⟩) rfl rfl (cell_tstC _ _ _) (by intro u hu; simp [tstC] at hu; rcases hu with rfl | rfl <;> rfl) (by unfold maxLen; omega) (by omega) (by simp; omega) ?_; intro v1 w1 hown1 hgrow1 hnil1; have hw1 : Gr WB w1 := Below.grown (hg.alloc (.cells #[.string nobody, .int .i64 30] 41)) hgrow1 (by rw [World.size_alloc]; omega) (fun j hj => (hown.lt j hj).1); have e0 := hw1.cell b0; have e1 := hw1.cell b1; have e2 := hw1.cell b2))
          have HBK := Lib.hid (TstAts_of_owns (xs := xs.reverse ++ [⟨nobody, 30⟩]) (by rw [List.length_append, List.length_reverse, ← HM.out]) (by rw [tstCs_add]; exact hown1))
          have hg1 := HGW.out.trans hw1
          clear b0 b1 b2 hown hown1 hgrow1 hnil1 HLn hg hsz HTS HM HT HGW HGT
          refine (HPL.out _ hg1).mono ?_
          rintro e Wp ⟨ub, rfl, hub, hgp, -⟩
          replace e0 := hgp.cell e0
          replace e1 := hgp.cell e1
          replace e2 := hgp.cell e2
          replace hg1 := hg1.trans hgp
          have hbk := HBK.out.gr hgp
          clear hgp HBK HPL hw1
          obtain ⟨pb, nb, cb, rfl⟩ : ∃ p n c, ub = .slice p n c := by
            obtain ⟨⟨p, cap, rfl, _⟩⟩ := hub
            exact ⟨p, _, cap, rfl⟩
          obtain ⟨pk, nk, ck, rfl⟩ : ∃ p n c, v1 = .slice p n c := by
            obtain ⟨⟨p, cap, rfl, _⟩⟩ := hbk
            exact ⟨p, _, cap, rfl⟩
          go_wp2_with fail
          refine (HPB.out _ _ hg1 hbk).mono ?_
          rintro e Wd ⟨ud, rfl, hud, hgp, -⟩
          replace e0 := hgp.cell e0
          replace e1 := hgp.cell e1
          replace e2 := hgp.cell e2
          replace hg1 := hg1.trans hgp
          replace hub := hub.gr hgp
          clear hgp hbk HPB
          obtain ⟨pd, nd, cd, rfl⟩ : ∃ p n c, ud = .slice p n c := by
            obtain ⟨⟨p, cap, rfl, _⟩⟩ := hud
            exact ⟨p, _, cap, rfl⟩
          go_wp2_with fail
          have hql := HWC.out _ hg1 (by have := HN.out; omega) nobody
          have HSW : hasS cs nobody = false → Hid (∀ W, Gr Wd W → Calls Try.prog 13 #[.slice pb nb cb, .slice pd nd cd] W fun e w' => e = .returned (.bool true) ∧ Gr W w') := fun hno => by
            have hno2 : ∀ s ∈ cs, s.toList ≠ nobody.toList := fun s hs e => by
              have : hasS cs nobody = true := by
                unfold hasS
                rw [List.any_eq_true]
                exact ⟨s, hs, by simp [e]⟩
              rw [hno] at this; cases this
            have hpl := poolL_same (c := c) (sp := sp) (key := kn) (lastC_back (xs := xs) (d := 60) (t := ⟨nobody, 30⟩) hno2)
            rw [← hpl] at hud
            intro W hW
            exact sameStr_c (hub.gr hW) (hud.gr hW) (by
              have h1 : (poolL cs xs c sp kn 60).length ≤ (srtM (lastM cs xs 60) (poolU xs sp 60 (drawnS kn cs))).length := by unfold poolL; rw [List.length_take]; omega
              have h2 := (srtM_spec (lastM cs xs 60) (poolU xs sp 60 (drawnS kn cs))).2.1
              have h3 := poolU_len xs sp 60 (drawnS kn cs)
              have h4 := HLEN.out
              omega)
          have HQL := Lib.hid hql
          clear hql hub hud
          refine HQL.out.mono ?_
          rintro e Wq ⟨rfl, rfl⟩
          have HDAY := Lib.hid (fun (r k : Nat) (hk : k = min (2 * r) n) (hr : 2 * r ≤ 10) => pool_day (key := kn) HND.out (by have := HN.out; omega) r k (by rw [← HN.out]; exact hk) hr)
          have HPD := Lib.hid (fun (r k : Nat) (hk : k = min (2 * r) n) (hr : 2 * r ≤ 10) => (show poolE cs (tstK (drawnS kn cs) k) 2 50 (kn : Int) (100 + (r : Int)) = 0 from poolE_of HZ1.out (tstK_ok HZ1.out (by have := HN.out; omega) k (by have := HN.out; omega)) (by unfold pickE; rw [HKD.out]; rfl) (outE_zero.2 ⟨by omega, by omega⟩)))
          have HDM := Lib.hid (fun x (hx : x ∈ drawnS kn cs) => (drawnS_perm kn cs).mem_iff.1 hx)
          have HDN := Lib.hid (show ((drawnS kn cs).map ByteArray.toList).Nodup from ((drawnS_perm kn cs).map ByteArray.toList).nodup_iff.2 HND.out)
          have HLEN' := HLEN.out
          replace HLEN := Lib.hid HLEN'
          clear HLEN'
          generalize drawnS kn cs = D at *
          clear e0 e1 HND HZ1 HZ2 HZ3 HKD HHA HROW HSZ HC HCS
          cases hq : hasS cs nobody
          case true =>
            go_wp2_with fail
            obtain ⟨WX, rfl⟩ : ∃ X : World, X = Wd := ⟨Wd, rfl⟩
            clear HSW hq
            obtain ⟨-, -⟩ : True ∧ True := ⟨trivial, trivial⟩
            go_wp2_with fail
            go_loopw [21, 22, 23, 24, 25, 27] (fun tv sv dv nv ev pv wr => ∃ (r k : Nat), k = min (2 * r) n ∧ 2 * r ≤ 10 ∧ dv = .int .i64 (100 + (r : Int)) ∧ wr.ownsRow WX.heap.size 9 1 sv k (strC (D.take k)) ∧ wr.ownsRow WX.heap.size 41 2 tv k (tstCs (tstK D k)) ∧ Gr WX wr) (fun _ _ dv _ _ _ _ => 200 - (intOf dv).toNat)
            case atStart => exact ⟨0, 0, by omega, by omega, by simp, by simpa [strC] using World.ownsRow_nil _ _ _ _, by simpa [tstK, tstCs] using World.ownsRow_nil _ _ _ _, Gr.refl _⟩
            case round =>
              obtain ⟨r, k, hk, hr10, rfl, hos, hot, hg⟩ := hrel
              obtain ⟨psn, csn, rfl⟩ := own_slice hos
              obtain ⟨ptn, ctn, rfl⟩ := own_slice hot
              have e2' := hg.cell e2
              by_cases hlt : k < n
              · have hk2 : k = 2 * r := by omega
                have hlt2 : (k : Int) < n := by omega
                have hlt3 : decide ((k : Int) < n) = true := decide_eq_true hlt2
                have HPK := Lib.hid (HPG.out 2 50 (100 + (r : Int)) kn wr (hg1.trans hg) (tstK D k) _ (TstAts_of_owns (tstK_len D k) hot) (HPD.out r k hk hr10) (by have := HN.out; omega))
                have hday := HDAY.out r k hk hr10
                rw [hday] at HPK
                have hq1 : ((D.drop k).take 2).length = min 2 (n - k) := by rw [List.length_take, List.length_drop]; have := HLEN.out; omega
                have hNL : ∀ i x, ((D.drop k).take 2)[i]? = some x → D[k + i]? = some x := fun i x hx => by
                  rw [List.getElem?_take] at hx
                  split at hx
                  · rwa [List.getElem?_drop] at hx
                  · cases hx
                generalize (D.drop k).take 2 = NL at *
                obtain ⟨q, hq⟩ : ∃ q, q = min 2 (n - k) := ⟨_, rfl⟩
                rw [← hq] at hq1
                have hmn : min 2 ((n : Int) - (k : Int)) = (q : Int) := by omega
                have hnk : IntKind.i64.wrap ((n : Int) - (k : Int)) = (n : Int) - (k : Int) := by rw [IntKind.wrap_i64]; omega
                have HNL := Lib.hid hNL
                have HQ1 := Lib.hid hq1
                have HOS := Lib.hid hos
                have HOT := Lib.hid hot
                have HKK := Lib.hid hk
                have HK2 := Lib.hid hk2
                have HQQ := Lib.hid hq
                have hqn : k + q ≤ n := by omega
                have hq2n : q ≤ 2 := by omega
                have hq1n : 1 ≤ q := by omega
                clear hday hNL hq1 hos hot hk hk2 hq
                go_wp2_with fail
                refine HPK.out.mono ?_
                rintro e Wn ⟨un, rfl, hun, hgn, hfr⟩
                obtain ⟨gn, on, cn, rfl, hcn⟩ : ∃ gn on cn, un = .slice (some ⟨gn, on, none⟩) q cn ∧ ∀ i x, NL[i]? = some x → Wn.cell? ⟨gn, on + i, none⟩ = some (.string x) := by
                  obtain ⟨⟨p', c', e, _, hh⟩⟩ := hun
                  obtain ⟨b', o', rfl, hc⟩ := hh (by rw [HQ1.out]; omega)
                  exact ⟨b', o', c', by rw [e, HQ1.out], fun i x hx => (hc i x hx).nm⟩
                have hfg : wr.heap.size ≤ gn := hfr _ _ _ rfl
                have hinn : Inn WX D NL gn on k 0 (.slice psn k csn) (.slice ptn k ctn) Wn := by
                  refine ⟨q_own_gr HOS.out hgn, q_own_gr HOT.out hgn, ?_, ?_, ?_, hcn, hg.trans hgn⟩
                  · intro e
                    have := (HOS.out.lt gn e).2
                    omega
                  · intro e
                    have := (HOT.out.lt gn e).2
                    omega
                  · have := cell_lt (hcn 0 (NL[0]'(by rw [HQ1.out]; omega)) (List.getElem?_eq_getElem _))
                    exact this
                have hgW := hg.trans hgn
                clear hun hfr HPK hgn hcn HOS HOT
                go_wp2_with fail
                go_loopw [21, 22, 27, 204] (fun tv sv pv iv wr => ∃ i : Nat, i ≤ q ∧ iv = .int .i64 i ∧ Inn WX D NL gn on k i sv tv wr) (fun _ _ _ iv _ => q - (intOf iv).toNat)
                case atStart => exact ⟨0, Nat.zero_le _, rfl, hinn⟩
                case round =>
                  obtain ⟨i, hi', rfl, hI⟩ := hrel
                  by_cases hlti : i < q
                  · obtain ⟨x, hx⟩ : ∃ x, NL[i]? = some x := ⟨NL[i]'(by rw [HQ1.out]; exact hlti), List.getElem?_eq_getElem _⟩
                    have hDx := HNL.out i x hx
                    have c0 := hI.cs i x hx
                    have hi2 : (i : Int) < q := by omega
                    have hsz := hI.gr.size
                    have hq1 := HWC.out wr (hg1.trans hI.gr) (by have := HN.out; omega) x
                    rw [hasS_mem (HDM.out x (List.mem_of_getElem? hDx))] at hq1
                    obtain ⟨psi, csi, rfl⟩ := own_slice hI.os
                    have hkl : (D.take (k + i)).length = k + i := by rw [List.length_take]; have := HLEN.out; omega
                    have hq2 := qWordS_c (strAts_of_owns hkl hI.os) (by rw [hkl]; omega) x
                    rw [hasS_apart HDN.out hDx] at hq2
                    have HI := Lib.hid hI
                    have HDX := Lib.hid hDx
                    have HQA := Lib.hid hq1
                    have HQB := Lib.hid hq2
                    have hki : k + i ≤ 8 := by omega
                    have HL1 : Hid ((strC (D.take (k + i))).length = (k + i) * 1) := by simp only [Hid, strC, List.length_map, hkl, Nat.mul_one]
                    have HL2 : Hid ((tstCs (tstK D (k + i))).length = (k + i) * 2) := by rw [Hid, tstCs_len, tstK_len]
                    have HRR : Hid ((k + i) / 2 = r) := by have := HK2.out; show (k + i) / 2 = r; omega
                    clear hx hDx hq1 hq2 hI hkl
                    go_wp2_with fail
                    refine HQA.out.mono ?_
                    rintro e Wa ⟨rfl, rfl⟩
                    go_wp2_with fail
                    refine HQB.out.mono ?_
                    rintro e Wa ⟨rfl, rfl⟩
                    go_wp2_with (first
                      | (at_builtin; refine wpList_append_own_at _ rfl _ _ 22 rfl WX.heap.size 9 iS (.string ⟨#[]⟩) 1 16 Try.underlying22 hiS hzS0 hzS1 hzS2 rfl (by decide) _ _ _ rfl (HI.out.os.alloc _) ⟨wr.heap.size, 0, none⟩ 1 1 [.string x] rfl rfl (cell_one_new _ _ _) (by intro u hu; simp at hu; subst hu; rfl) (by unfold maxLen; omega) (by omega) (by simp; omega) ?_; intro v1 w1 hown1 hgrow1 hnil1 hat1; have hmid := HI.out.mid hgrow1; have hs1 := grown_size hgrow1; have hs1' : WX.heap.size ≤ w1.heap.size := (by rw [World.size_alloc] at hs1; omega))
                      | (at_builtin; refine wpList_append_own_at _ rfl _ _ 23 rfl WX.heap.size 41 iT (.agg #[.string ⟨#[]⟩, .int .i64 0]) 2 24 Try.underlying23 hiT hzT0 hzT1 hzT2 rfl (by decide) _ _ _ rfl (hmid.alloc _) ⟨w1.heap.size, 0, none⟩ 1 1 (tstC ⟨x, 100 + (r : Int)⟩) rfl rfl (cell_tstC _ _ _) (by intro u hu; simp [tstC] at hu; rcases hu with rfl | rfl <;> rfl) (by unfold maxLen; omega) (by omega) (by simp; omega) ?_; intro v2 w2 hown2 hgrow2 hnil2 hat2))
                    go_roundw
                    case rel => exact ⟨i + 1, by omega, by go_num, HI.out.step HDX.out HRR.out hgrow1 hown1 hat1 hgrow2 hown2 hat2⟩
                    case measure => simp [intOf]; omega
                  · obtain hiq : i = q := by omega
                    have hnl : ¬ (i : Int) < q := by omega
                    have hnl2 : decide ((i : Int) < q) = false := decide_eq_false hnl
                    have HI := Lib.hid hI
                    rw [hiq] at HI
                    clear hiq
                    have HKQ : Hid (k + q = min (2 * (r + 1)) n) := by have := HK2.out; have := HQQ.out; show k + q = min (2 * (r + 1)) n; omega
                    have hr12 : 2 * (r + 1) ≤ 10 := by have := HK2.out; omega
                    clear hI
                    go_wp2_with fail
                    go_roundw
                    case rel => exact ⟨r + 1, k + q, HKQ.out, hr12, by go_num, HI.out.os, HI.out.ot, HI.out.gr⟩
                    case measure => simp [intOf]; omega
              · have hnl : ¬ (k : Int) < n := by omega
                have hnl2 : decide ((k : Int) < n) = false := decide_eq_false hnl
                have hgf := hg1.trans hg
                clear hos hot hk
                go_wp2_with fail
                refine (HA.out _ hgf).mono ?_
                rintro e Wa ⟨rfl, g4⟩
                go_wp2_with fail
                go_ret
                exact ⟨rfl, hgf.trans g4⟩
          case false =>
            have HSV := HSW hq
            clear HSW hq
            go_wp2_with fail
            refine (HSV.out _ (Gr.refl _)).mono ?_
            rintro e WX ⟨rfl, hgs⟩
            replace e2 := hgs.cell e2
            replace hg1 := hg1.trans hgs
            clear hgs HSV
            obtain ⟨-, -⟩ : True ∧ True := ⟨trivial, trivial⟩
            go_wp2_with fail
            go_loopw [21, 22, 23, 24, 25, 27] (fun tv sv dv nv ev pv wr => ∃ (r k : Nat), k = min (2 * r) n ∧ 2 * r ≤ 10 ∧ dv = .int .i64 (100 + (r : Int)) ∧ wr.ownsRow WX.heap.size 9 1 sv k (strC (D.take k)) ∧ wr.ownsRow WX.heap.size 41 2 tv k (tstCs (tstK D k)) ∧ Gr WX wr) (fun _ _ dv _ _ _ _ => 200 - (intOf dv).toNat)
            case atStart => exact ⟨0, 0, by omega, by omega, by simp, by simpa [strC] using World.ownsRow_nil _ _ _ _, by simpa [tstK, tstCs] using World.ownsRow_nil _ _ _ _, Gr.refl _⟩
            case round =>
              obtain ⟨r, k, hk, hr10, rfl, hos, hot, hg⟩ := hrel
              obtain ⟨psn, csn, rfl⟩ := own_slice hos
              obtain ⟨ptn, ctn, rfl⟩ := own_slice hot
              have e2' := hg.cell e2
              by_cases hlt : k < n
              · have hk2 : k = 2 * r := by omega
                have hlt2 : (k : Int) < n := by omega
                have hlt3 : decide ((k : Int) < n) = true := decide_eq_true hlt2
                have HPK := Lib.hid (HPG.out 2 50 (100 + (r : Int)) kn wr (hg1.trans hg) (tstK D k) _ (TstAts_of_owns (tstK_len D k) hot) (HPD.out r k hk hr10) (by have := HN.out; omega))
                have hday := HDAY.out r k hk hr10
                rw [hday] at HPK
                have hq1 : ((D.drop k).take 2).length = min 2 (n - k) := by rw [List.length_take, List.length_drop]; have := HLEN.out; omega
                have hNL : ∀ i x, ((D.drop k).take 2)[i]? = some x → D[k + i]? = some x := fun i x hx => by
                  rw [List.getElem?_take] at hx
                  split at hx
                  · rwa [List.getElem?_drop] at hx
                  · cases hx
                generalize (D.drop k).take 2 = NL at *
                obtain ⟨q, hq⟩ : ∃ q, q = min 2 (n - k) := ⟨_, rfl⟩
                rw [← hq] at hq1
                have hmn : min 2 ((n : Int) - (k : Int)) = (q : Int) := by omega
                have hnk : IntKind.i64.wrap ((n : Int) - (k : Int)) = (n : Int) - (k : Int) := by rw [IntKind.wrap_i64]; omega
                have HNL := Lib.hid hNL
                have HQ1 := Lib.hid hq1
                have HOS := Lib.hid hos
                have HOT := Lib.hid hot
                have HKK := Lib.hid hk
                have HK2 := Lib.hid hk2
                have HQQ := Lib.hid hq
                have hqn : k + q ≤ n := by omega
                have hq2n : q ≤ 2 := by omega
                have hq1n : 1 ≤ q := by omega
                clear hday hNL hq1 hos hot hk hk2 hq
                go_wp2_with fail
                refine HPK.out.mono ?_
                rintro e Wn ⟨un, rfl, hun, hgn, hfr⟩
                obtain ⟨gn, on, cn, rfl, hcn⟩ : ∃ gn on cn, un = .slice (some ⟨gn, on, none⟩) q cn ∧ ∀ i x, NL[i]? = some x → Wn.cell? ⟨gn, on + i, none⟩ = some (.string x) := by
                  obtain ⟨⟨p', c', e, _, hh⟩⟩ := hun
                  obtain ⟨b', o', rfl, hc⟩ := hh (by rw [HQ1.out]; omega)
                  exact ⟨b', o', c', by rw [e, HQ1.out], fun i x hx => (hc i x hx).nm⟩
                have hfg : wr.heap.size ≤ gn := hfr _ _ _ rfl
                have hinn : Inn WX D NL gn on k 0 (.slice psn k csn) (.slice ptn k ctn) Wn := by
                  refine ⟨q_own_gr HOS.out hgn, q_own_gr HOT.out hgn, ?_, ?_, ?_, hcn, hg.trans hgn⟩
                  · intro e
                    have := (HOS.out.lt gn e).2
                    omega
                  · intro e
                    have := (HOT.out.lt gn e).2
                    omega
                  · have := cell_lt (hcn 0 (NL[0]'(by rw [HQ1.out]; omega)) (List.getElem?_eq_getElem _))
                    exact this
                have hgW := hg.trans hgn
                clear hun hfr HPK hgn hcn HOS HOT
                go_wp2_with fail
                go_loopw [21, 22, 27, 204] (fun tv sv pv iv wr => ∃ i : Nat, i ≤ q ∧ iv = .int .i64 i ∧ Inn WX D NL gn on k i sv tv wr) (fun _ _ _ iv _ => q - (intOf iv).toNat)
                case atStart => exact ⟨0, Nat.zero_le _, rfl, hinn⟩
                case round =>
                  obtain ⟨i, hi', rfl, hI⟩ := hrel
                  by_cases hlti : i < q
                  · obtain ⟨x, hx⟩ : ∃ x, NL[i]? = some x := ⟨NL[i]'(by rw [HQ1.out]; exact hlti), List.getElem?_eq_getElem _⟩
                    have hDx := HNL.out i x hx
                    have c0 := hI.cs i x hx
                    have hi2 : (i : Int) < q := by omega
                    have hsz := hI.gr.size
                    have hq1 := HWC.out wr (hg1.trans hI.gr) (by have := HN.out; omega) x
                    rw [hasS_mem (HDM.out x (List.mem_of_getElem? hDx))] at hq1
                    obtain ⟨psi, csi, rfl⟩ := own_slice hI.os
                    have hkl : (D.take (k + i)).length = k + i := by rw [List.length_take]; have := HLEN.out; omega
                    have hq2 := qWordS_c (strAts_of_owns hkl hI.os) (by rw [hkl]; omega) x
                    rw [hasS_apart HDN.out hDx] at hq2
                    have HI := Lib.hid hI
                    have HDX := Lib.hid hDx
                    have HQA := Lib.hid hq1
                    have HQB := Lib.hid hq2
                    have hki : k + i ≤ 8 := by omega
                    have HL1 : Hid ((strC (D.take (k + i))).length = (k + i) * 1) := by simp only [Hid, strC, List.length_map, hkl, Nat.mul_one]
                    have HL2 : Hid ((tstCs (tstK D (k + i))).length = (k + i) * 2) := by rw [Hid, tstCs_len, tstK_len]
                    have HRR : Hid ((k + i) / 2 = r) := by have := HK2.out; show (k + i) / 2 = r; omega
                    clear hx hDx hq1 hq2 hI hkl
                    go_wp2_with fail
                    refine HQA.out.mono ?_
                    rintro e Wa ⟨rfl, rfl⟩
                    go_wp2_with fail
                    refine HQB.out.mono ?_
                    rintro e Wa ⟨rfl, rfl⟩
                    go_wp2_with (first
                      | (at_builtin; refine wpList_append_own_at _ rfl _ _ 22 rfl WX.heap.size 9 iS (.string ⟨#[]⟩) 1 16 Try.underlying22 hiS hzS0 hzS1 hzS2 rfl (by decide) _ _ _ rfl (HI.out.os.alloc _) ⟨wr.heap.size, 0, none⟩ 1 1 [.string x] rfl rfl (cell_one_new _ _ _) (by intro u hu; simp at hu; subst hu; rfl) (by unfold maxLen; omega) (by omega) (by simp; omega) ?_; intro v1 w1 hown1 hgrow1 hnil1 hat1; have hmid := HI.out.mid hgrow1; have hs1 := grown_size hgrow1; have hs1' : WX.heap.size ≤ w1.heap.size := (by rw [World.size_alloc] at hs1; omega))
                      | (at_builtin; refine wpList_append_own_at _ rfl _ _ 23 rfl WX.heap.size 41 iT (.agg #[.string ⟨#[]⟩, .int .i64 0]) 2 24 Try.underlying23 hiT hzT0 hzT1 hzT2 rfl (by decide) _ _ _ rfl (hmid.alloc _) ⟨w1.heap.size, 0, none⟩ 1 1 (tstC ⟨x, 100 + (r : Int)⟩) rfl rfl (cell_tstC _ _ _) (by intro u hu; simp [tstC] at hu; rcases hu with rfl | rfl <;> rfl) (by unfold maxLen; omega) (by omega) (by simp; omega) ?_; intro v2 w2 hown2 hgrow2 hnil2 hat2))
                    go_roundw
                    case rel => exact ⟨i + 1, by omega, by go_num, HI.out.step HDX.out HRR.out hgrow1 hown1 hat1 hgrow2 hown2 hat2⟩
                    case measure => simp [intOf]; omega
                  · obtain hiq : i = q := by omega
                    have hnl : ¬ (i : Int) < q := by omega
                    have hnl2 : decide ((i : Int) < q) = false := decide_eq_false hnl
                    have HI := Lib.hid hI
                    rw [hiq] at HI
                    clear hiq
                    have HKQ : Hid (k + q = min (2 * (r + 1)) n) := by have := HK2.out; have := HQQ.out; show k + q = min (2 * (r + 1)) n; omega
                    have hr12 : 2 * (r + 1) ≤ 10 := by have := HK2.out; omega
                    clear hI
                    go_wp2_with fail
                    go_roundw
                    case rel => exact ⟨r + 1, k + q, HKQ.out, hr12, by go_num, HI.out.os, HI.out.ot, HI.out.gr⟩
                    case measure => simp [intOf]; omega
              · have hnl : ¬ (k : Int) < n := by omega
                have hnl2 : decide ((k : Int) < n) = false := decide_eq_false hnl
                have hgf := hg1.trans hg
                clear hos hot hk
                go_wp2_with fail
                refine (HA.out _ hgf).mono ?_
                rintro e Wa ⟨rfl, g4⟩
                go_wp2_with fail
                go_ret
                exact ⟨rfl, hgf.trans g4⟩
end Go.Proofs.Ytaapaijdcgpdkaa
