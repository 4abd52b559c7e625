/- Sheets (chapter 10): CheckSheet, as the program has it: all results. -/
import Derived.Test.YtjkiidkacpffnaaGreatDoorGMapG
namespace Go.Proofs.YtjkiidkacpffnaaGreatDoor
open Go.RowKit Go.Lib
set_option linter.unusedSimpArgs false
set_option linter.unusedVariables false
/-- what the loop over the results keeps -/
structure ShKeep (w0 w : World) (M L mg : Nat) (ro : ByteArray) (va : Int) (st : ByteArray) (vs : Value) (xs : List RowR) (i : Nat) : Prop where
  gr : Gr w0 w
  mp : ∃ ks, MapG evBO w mg ks ∧ SeenO ks xs i
  m : w.cell? ⟨M, 0, none⟩ = some (.map (some mg))
  l : ShBox w L ro va st vs
set_option maxHeartbeats 4000000 in
set_option maxRecDepth 100000 in
theorem findSh_c {w0 w : World} {xs : List RowR} {n b off cap M L mg : Nat} {ro st : ByteArray} {va : Int} {vs : Value} (hn : xs.length = n) (h1 : n ≤ 160) (hcap : n ≤ cap) (hmx : cap ≤ maxLen) (hc : ∀ i x, xs[i]? = some x → RowAt w0 b (off + i * 3) x) (hvs : ∃ p n c, vs = .slice p n c) (hg : w0.heap.size ≤ mg) (hK : ShKeep w0 w M L mg ro va st vs xs 0) :
    Calls Tryz.prog 74 #[.slice (some ⟨b, off, none⟩) n cap, .func (.func 41) #[] #[.pointer (some ⟨M, 0, none⟩), .pointer (some ⟨L, 0, none⟩)]] w fun e w' => (∃ i : Int, e = .returned (.tuple #[.int .i64 i, .int .i64 (errG (oneShE va xs) xs n 0)])) ∧ Gr w0 w' := by
  have HX := Lib.hid (fun k (h : k < n) => (show ∃ x, xs[k]? = some x from ⟨xs[k]'(by omega), List.getElem?_eq_getElem _⟩))
  have HC := Lib.hid hc
  have HS := Lib.hid (fun i x (hi : i < n) (h : xs[i]? = some x) => errG_step (E := oneShE va xs) hi h)
  have HE : Hid (errG (oneShE va xs) xs 0 n = 0) := rfl
  have HO := Lib.hid (fun (j : Nat) (x : RowR) (W : World) (ks : List (ByteArray × Bool)) (G : Gr w0 W) (hx : xs[j]? = some x) hM hL hks hse => oneSh_c (W := W) (M := M) (L := L) (mg := mg) (ks := ks) (ro := ro) (st := st) (va := va) (vs := vs) G hx (hc j x hx).val (hc j x hx).len hvs hM hL hks hse hg)
  have HK := Lib.hid hK
  generalize errG (oneShE va xs) xs = R at *
  clear hc hn hK hvs hg
  go_enter Tryz.func74, Tryz.ntmps74
  go_wp2_with fail
  go_loopg [11] n (fun gk s11 wr => ∃ i : Nat, s11 = .int .i64 i ∧ gk + i = n ∧ ShKeep w0 wr M L mg ro va st vs xs i ∧ Hid (R (n - i) i = R n 0))
  case atStart => exact ⟨0, rfl, by omega, HK.out, by simp [Hid]⟩
  case round =>
    obtain ⟨i, rfl, hi, hk, HF⟩ := hrel
    by_cases hlt : i < n
    · obtain ⟨x, hx⟩ := HX.out i hlt
      obtain ⟨hg, ⟨ks, hmap, hseen⟩, hM, hL⟩ := hk
      obtain ⟨c0, c1, c2, hv, _⟩ := (HC.out i x hx).gr hg
      have hi2 : (i : Int) < n := by omega
      have hst := HS.out i x hlt hx
      have HP := Lib.hid (hseen.put hx)
      obtain ⟨⟨pu, cu, hu, _⟩⟩ := id hv
      rw [hu] at c2
      have g1 := (Gr.refl wr).alloc (.cells #[.string x.nm, .string x.st, .slice pu x.xs.length cu] 46)
      have HT := Lib.hid (HO.out i x _ ks (hg.trans g1) hx (g1.cell hM) (hL.gr g1) (hmap.gr g1) hseen)
      rw [hu] at HT
      clear hx hv hu hseen hmap hM hL hg g1
      generalize x.xs.length = xn at *
      by_cases h0 : oneShE va xs i x = 0
      · rw [h0] at HT
        rw [if_pos h0] at hst
        have HF2 := Lib.hid hst
        clear hst h0
        go_wp2_with (refine HT.out.mono ?_; rintro e w4 ⟨rfl, hA, hB, hC, hD⟩)
        go_roundg (gk - 1)
        case measure => omega
        case rel => exact ⟨i + 1, by go_num, by omega, ⟨hA, ⟨_, hB, HP.out⟩, hC, hD⟩, by unfold Hid; rw [← HF2.out, HF.out]⟩
      · rw [if_neg h0] at hst
        generalize oneShE va xs i x = z at *
        have q2 : (z != 0) = true := bne_iff_ne.2 h0
        have HQ : Hid (R n 0 = z) := by unfold Hid; rw [← HF.out, hst]
        clear hst h0
        go_wp2_with (refine HT.out.mono ?_; rintro e w4 ⟨rfl, hA, hB, hC, hD⟩)
        exact bodyPost_ret (v := .tuple #[.int .i64 i, .int .i64 z]) (by simp [results, Tryz.results74, go_sem]) rfl ⟨⟨i, by rw [HQ.out]⟩, hA⟩
    · have hin : i = n := by omega
      have hi2 : ¬ (i : Int) < n := by omega
      have HQ : Hid (R n 0 = 0) := by unfold Hid; rw [← HF.out, hin, Nat.sub_self]; exact HE.out
      have hgg := hk.gr
      clear hk
      go_wp2_with fail
      exact bodyPost_ret (v := .tuple #[.int .i64 0, .int .i64 0]) (by simp [results, Tryz.results74, go_sem]) rfl ⟨⟨0, by rw [HQ.out]⟩, hgg⟩
theorem eachSh_c {w0 w : World} {xs : List RowR} {n b off cap M L mg : Nat} {ro st : ByteArray} {va : Int} {vs : Value} (hn : xs.length = n) (h1 : n ≤ 160) (hcap : n ≤ cap) (hmx : cap ≤ maxLen) (hc : ∀ i x, xs[i]? = some x → RowAt w0 b (off + i * 3) x) (hvs : ∃ p n c, vs = .slice p n c) (hg : w0.heap.size ≤ mg) (hK : ShKeep w0 w M L mg ro va st vs xs 0) :
    Calls Tryz.prog 40 #[.slice (some ⟨b, off, none⟩) n cap, .func (.func 41) #[] #[.pointer (some ⟨M, 0, none⟩), .pointer (some ⟨L, 0, none⟩)]] w fun e w' => e = .returned (.int .i64 (errG (oneShE va xs) xs n 0)) ∧ Gr w0 w' := by
  have H := Lib.hid (findSh_c hn h1 hcap hmx hc hvs hg hK)
  clear hc hn hvs hK hg
  go_enter Tryz.func40, Tryz.ntmps40
  go_wp2_with (refine H.out.mono ?_; rintro e w4 ⟨⟨i, rfl⟩, hg⟩)
  go_ret
  exact ⟨rfl, hg⟩
theorem findSh_nil (p : Option Addr) (cap M L : Nat) (w : World) :
    Calls Tryz.prog 74 #[.slice p 0 cap, .func (.func 41) #[] #[.pointer (some ⟨M, 0, none⟩), .pointer (some ⟨L, 0, none⟩)]] w fun e w' => (∃ i : Int, e = .returned (.tuple #[.int .i64 i, .int .i64 0])) ∧ w = w' := by
  go_enter Tryz.func74, Tryz.ntmps74
  go_wp2_with fail
  refine wp_loop_rounds 1 ?_
  rw [rounds_succ]
  go_wp2_with fail
  exact bodyPost_ret (v := .tuple #[.int .i64 0, .int .i64 0]) (by simp [results, Tryz.results74, go_sem]) rfl ⟨⟨0, rfl⟩, rfl⟩
theorem eachSh_nil (p : Option Addr) (cap M L : Nat) (w : World) :
    Calls Tryz.prog 40 #[.slice p 0 cap, .func (.func 41) #[] #[.pointer (some ⟨M, 0, none⟩), .pointer (some ⟨L, 0, none⟩)]] w fun e w' => e = .returned (.int .i64 0) ∧ w = w' := by
  have H := Lib.hid (findSh_nil p cap M L w)
  go_enter Tryz.func40, Tryz.ntmps40
  go_wp2_with (refine H.out.mono ?_; rintro e w4 ⟨⟨i, rfl⟩, rfl⟩)
  go_ret
  exact ⟨rfl, rfl⟩
end Go.Proofs.YtjkiidkacpffnaaGreatDoor
