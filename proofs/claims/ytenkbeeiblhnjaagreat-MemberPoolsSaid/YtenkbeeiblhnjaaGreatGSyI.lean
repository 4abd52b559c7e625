/- The library's stable sort of names by a number, of whatever length: walked. -/
import Derived.Test.YtenkbeeiblhnjaaGreatGSyG
namespace Go.Proofs.YtenkbeeiblhnjaaGreat
open Go.RowKit Go.Lib
set_option linter.unusedSimpArgs false
set_option linter.unusedVariables false
open Go.Sort Go.Shelf in
theorem mergeR_c (mm : List (ByteArray × Int)) (cb : Array Value) {w0 : World} {blk off : Nat} {d0 : Array ByteArray} (R : Row1 encS w0 blk off d0) (N : Nat) (hN : d0.size = N) (hsz : N ≤ 1000) (hC : CmpLays1 Tryz.prog 60 cb encS (cmpM mm) blk off N w0) (cap : Nat)
    (r : List ByteArray) (hr : r.length = N) (a m b : Nat) (w : World) (h1 : a < m) (h2 : m < b) (h3 : b ≤ N) (sA : Asc (ltK (dayM mm)) (seg r a m)) (sB : Asc (ltK (dayM mm)) (seg r m b)) (S : SW encS w0 blk off r.toArray w) :
    Calls Tryz.prog 138 #[.slice (some ⟨blk, off, none⟩) N cap, .int .i64 (a : Int), .int .i64 (m : Int), .int .i64 (b : Int), .func (.func 60) #[] cb] w fun e w' => e = .returned (.tuple #[]) ∧ ∃ r', Stp (dayM mm) r r' a b ∧ SW encS w0 blk off r'.toArray w' := by
  obtain ⟨e, l1, l2⟩ := seg_cut r (a := a) (m := m) (b := b) (by omega) (by omega) (by omega)
  have lt : (r.take a).length = a := by rw [List.length_take]; omega
  have ld : (r.drop b).length = N - b := by rw [List.length_drop]; omega
  have hst := mrg_step (dayM mm) r (a := a) (m := m) (b := b) (by omega) (by omega) (by omega) sA sB
  rw [e] at S
  refine (symMerge_c mm cb R N hN (by omega) hC cap (b - a) (r.take a) (seg r a m) (seg r m b) (r.drop b) a m b w rfl (by omega) (by omega) lt.symm (by omega) (by omega) (by omega) sA sB S).mono ?_
  rintro e w' ⟨rfl, hS⟩
  exact ⟨rfl, _, hst, hS⟩
open Go.Sort Go.Shelf in
theorem insR_c (I : InsSOK) (mm : List (ByteArray × Int)) (cb : Array Value) {w0 : World} {blk off : Nat} {d0 : Array ByteArray} (R : Row1 encS w0 blk off d0) (N : Nat) (hN : d0.size = N) (hsz : N ≤ 1000) (hC : CmpLays1 Tryz.prog 60 cb encS (cmpM mm) blk off N w0) (cap : Nat)
    (r : List ByteArray) (hr : r.length = N) (a b : Nat) (w : World) (h1 : a ≤ b) (h3 : b ≤ N) (S : SW encS w0 blk off r.toArray w) :
    Calls Tryz.prog 137 #[.slice (some ⟨blk, off, none⟩) N cap, .int .i64 (a : Int), .int .i64 (b : Int), .func (.func 60) #[] cb] w fun e w' => e = .returned (.tuple #[]) ∧ ∃ r', Stp (dayM mm) r r' a b ∧ SW encS w0 blk off r'.toArray w' := by
  have hrs : r.toArray.size = N := by simpa using hr
  have := I.some mm cb blk off cap a b d0 r.toArray w0 w (by rw [hN]; exact hC) R (by rw [hN, hrs]) S h1 (by omega) (by omega)
  rw [hrs] at this
  refine this.mono ?_
  rintro e w' ⟨rfl, hS⟩
  exact ⟨rfl, _, ins_step mm r h1 (by omega), by simpa using hS⟩
open Go.Sort Go.Shelf in
set_option maxHeartbeats 8000000 in
set_option maxRecDepth 100000 in
theorem stableN_c (I : InsSOK) (mm : List (ByteArray × Int)) (cb : Array Value) {w0 : World} {blk off : Nat} (N cap : Nat) (l : List ByteArray) (hl : l.length = N) (hsz : N ≤ 1000) (R : Row1 encS w0 blk off l.toArray) (hC : CmpLays1 Tryz.prog 60 cb encS (cmpM mm) blk off N w0) (w : World) (S : SW encS w0 blk off l.toArray w) :
    Calls Tryz.prog 101 #[.slice (some ⟨blk, off, none⟩) N cap, .int .i64 (N : Int), .func (.func 60) #[] cb] w fun e w' =>
      e = .returned (.tuple #[]) ∧ ∃ r, Flt (dayM mm) l r ∧ Asc (ltK (dayM mm)) r ∧ SW encS w0 blk off r.toArray w' := by
  have hN : l.toArray.size = N := by simpa using hl
  have HIN := Lib.hid (fun r hr a b w h1 h3 S => insR_c I mm cb R N hN hsz hC cap r hr a b w h1 h3 S)
  have HMR := Lib.hid (fun r hr a m b w h1 h2 h3 sA sB S => mergeR_c mm cb R N hN hsz hC cap r hr a m b w h1 h2 h3 sA sB S)
  have S0 := Lib.hid S
  have HLL := Lib.hid hl
  have HF0 : Hid (Flt (dayM mm) l l) := ⟨rfl, fun _ => rfl⟩
  clear S hl hN hC R I
  go_enter Tryz.func101, Tryz.ntmps101
  go_wp2_with fail
  go_loopg [7, 8] N (fun gk s7 s8 wr => ∃ a b : Nat, s7 = .int .i64 a ∧ s8 = .int .i64 b ∧ a ≤ N ∧ N - a ≤ gk ∧ Hid (∃ t r, a = 20 * t ∧ b = a + 20 ∧ Flt (dayM mm) l r ∧ Firsts (dayM mm) r t ∧ SW encS w0 blk off r.toArray wr))
  case atStart => exact ⟨0, 20, by simp, by simp, by omega, by omega, 0, l, by omega, by omega, HF0.out, ⟨fun u hu => absurd hu (by omega)⟩, S0.out⟩
  case round =>
    clear S0 HF0
    obtain ⟨a, b, rfl, rfl, haN, hgk, HI⟩ := hrel
    obtain ⟨t, r, hat, hba, hF, hFi, hS⟩ := HI.out
    have hrl : r.length = N := by rw [hF.len]; exact HLL.out
    by_cases hb : b ≤ N
    · have hb2 : (b : Int) ≤ N := by omega
      have hb3 : decide ((b : Int) ≤ N) = true := decide_eq_true hb2
      have HC1 := Lib.hid (HIN.out r hrl a b wr (by omega) hb hS)
      have hg2 : N - b ≤ gk - 1 := by omega
      have hg3 : gk - 1 < gk := by omega
      obtain ⟨b', hb'⟩ : ∃ q, q = b + 20 := ⟨_, rfl⟩
      have zb : (b : Int) + 20 = (b' : Int) := by omega
      have vb : IntKind.i64.wrap (b' : Int) = (b' : Int) := by rw [IntKind.wrap_i64]; omega
      have HNX := Lib.hid (fun r' W (hs : Stp (dayM mm) r r' a b) (hw : SW encS w0 blk off r'.toArray W) => (show ∃ t r, b = 20 * t ∧ b' = b + 20 ∧ Flt (dayM mm) l r ∧ Firsts (dayM mm) r t ∧ SW encS w0 blk off r.toArray W from ⟨t + 1, r', by omega, hb', hF.trans hs.flt, hFi.step (by rw [← hat, ← hba]; exact hs), hw⟩))
      clear hat hba hF hFi hS HI hrl hb'
      go_wp2_with fail
      refine HC1.out.mono ?_
      rintro e W4 ⟨rfl, r', hs, hW⟩
      have HN2 := Lib.hid (HNX.out r' W4 hs hW)
      clear hs hW HNX HC1
      go_wp2_with fail
      go_roundg (gk - 1)
      case measure => exact hg3
      case rel => exact ⟨b, b', rfl, by first | rfl | go_num, hb, hg2, HN2⟩
    · have hb2 : ¬ (b : Int) ≤ N := by omega
      have hb3 : decide ((b : Int) ≤ N) = false := decide_eq_false hb2
      have HC1 := Lib.hid (HIN.out r hrl a N wr haN (Nat.le_refl _) hS)
      have HNX := Lib.hid (fun r' W (hs : Stp (dayM mm) r r' a N) (hw : SW encS w0 blk off r'.toArray W) => (show ∃ r, Flt (dayM mm) l r ∧ Blks (dayM mm) r 20 ∧ SW encS w0 blk off r.toArray W from ⟨r', hF.trans hs.flt, hFi.last hrl (by omega) (by rw [← hat]; exact hs), hw⟩))
      clear hat hba hF hFi hS HI hrl
      go_wp2_with fail
      refine HC1.out.mono ?_
      rintro e W4 ⟨rfl, r', hs, hW⟩
      have HN2 := Lib.hid (HNX.out r' W4 hs hW)
      clear hs hW HNX HC1 hb hb2 hb3 haN hgk
      go_wp2_with fail
      go_loopg [6, 7, 8, 9] N (fun gk s6 s7 s8 s9 wr => ∃ bs : Nat, s6 = .int .i64 bs ∧ 0 < bs ∧ bs ≤ 2000 ∧ N - bs ≤ gk ∧ Hid (∃ r, Flt (dayM mm) l r ∧ Blks (dayM mm) r bs ∧ SW encS w0 blk off r.toArray wr))
      case atStart => exact ⟨20, by simp, by omega, by omega, by omega, HN2⟩
      case round =>
        clear HN2
        obtain ⟨bs, rfl, hbs, hbm, hgk, HI⟩ := hrel
        by_cases hlt : bs < N
        · obtain ⟨r, hF, hB, hS⟩ := HI.out
          have hlt2 : (bs : Int) < N := by omega
          have hlt3 : decide ((bs : Int) < N) = true := decide_eq_true hlt2
          obtain ⟨d2, hd2⟩ : ∃ d, d = 2 * bs := ⟨_, rfl⟩
          have z2 : (2 : Int) * bs = (d2 : Int) := by omega
          have z3 : (bs : Int) * 2 = (d2 : Int) := by omega
          have v2 : IntKind.i64.wrap (d2 : Int) = (d2 : Int) := by rw [IntKind.wrap_i64]; omega
          have hd3 : d2 ≤ 2000 := by omega
          have hd4 : 0 < d2 := by omega
          obtain ⟨G, rfl⟩ : ∃ G, G = gk := ⟨gk, rfl⟩
          have hgd : N - d2 ≤ G - 1 := by omega
          have hgd1 : G - 1 < G := by omega
          have HI0 : Hid (∃ t r, 0 = 2 * bs * t ∧ d2 = 0 + 2 * bs ∧ Flt (dayM mm) l r ∧ Half (dayM mm) r bs t ∧ SW encS w0 blk off r.toArray wr) := ⟨0, r, by omega, by omega, hF, hB.half, hS⟩
          have HD2 := Lib.hid hd2
          clear hF hB hS HI hd2
          go_wp2_with fail
          go_loopg [7, 8] N (fun g2 s7 s8 wr => ∃ a b : Nat, s7 = .int .i64 a ∧ s8 = .int .i64 b ∧ a ≤ N ∧ b ≤ 4000 ∧ N - a ≤ g2 ∧ Hid (∃ t r, a = 2 * bs * t ∧ b = a + 2 * bs ∧ Flt (dayM mm) l r ∧ Half (dayM mm) r bs t ∧ SW encS w0 blk off r.toArray wr))
          case atStart => exact ⟨0, d2, by simp, by first | rfl | simp, by omega, by omega, by omega, HI0⟩
          case round =>
            clear HI0
            obtain ⟨a, b, rfl, rfl, haN, hbM, hg2, HI⟩ := hrel
            obtain ⟨t, r, hat, hba, hF, hH, hS⟩ := HI.out
            have hrl : r.length = N := by rw [hF.len]; exact HLL.out
            obtain ⟨m, hm⟩ : ∃ q, q = a + bs := ⟨_, rfl⟩
            have zm : (a : Int) + bs = (m : Int) := by omega
            have vm : IntKind.i64.wrap (m : Int) = (m : Int) := by rw [IntKind.wrap_i64]; omega
            have sA : Asc (ltK (dayM mm)) (seg r a m) := by
              have := hH.hi (2 * t) (Nat.le_refl _)
              rw [two_mul_at, ← hat, ← hm] at this
              exact this
            by_cases hb : b ≤ N
            · have hb2 : (b : Int) ≤ N := by omega
              have hb3 : decide ((b : Int) ≤ N) = true := decide_eq_true hb2
              have sB : Asc (ltK (dayM mm)) (seg r m b) := by
                have := hH.hi (2 * t + 1) (by omega)
                rw [two_mul_at1, ← hat, ← hm] at this
                rw [show b = m + bs by omega]
                exact this
              have HC1 := Lib.hid (HMR.out r hrl a m b wr (by omega) (by omega) hb sA sB hS)
              obtain ⟨b', hb'⟩ : ∃ q, q = b + d2 := ⟨_, rfl⟩
              have zb : (b : Int) + d2 = (b' : Int) := by omega
              have vb : IntKind.i64.wrap (b' : Int) = (b' : Int) := by rw [IntKind.wrap_i64]; omega
              have hbm' : b' ≤ 4000 := by omega
              have hg3 : N - b ≤ gk - 1 := by omega
              have hg4 : gk - 1 < gk := by omega
              have HNX := Lib.hid (fun r' W (hs : Stp (dayM mm) r r' a b) (hw : SW encS w0 blk off r'.toArray W) => (show ∃ t r, b = 2 * bs * t ∧ b' = b + 2 * bs ∧ Flt (dayM mm) l r ∧ Half (dayM mm) r bs t ∧ SW encS w0 blk off r.toArray W from ⟨t + 1, r', by rw [Nat.mul_add, ← hat]; omega, by have := HD2.out; omega, hF.trans hs.flt, hH.step (by rw [← hat, ← hba]; exact hs), hw⟩))
              clear hat hba hF hH hS HI hrl sA sB hm hb'
              go_wp2_with fail
              refine HC1.out.mono ?_
              rintro e W5 ⟨rfl, r', hs, hW⟩
              have HN2 := Lib.hid (HNX.out r' W5 hs hW)
              clear hs hW HNX HC1
              go_wp2_with fail
              go_roundg (gk - 1)
              case measure => exact hg4
              case rel => exact ⟨b, b', rfl, by first | rfl | go_num, hb, hbm', hg3, HN2⟩
            · have hb2 : ¬ (b : Int) ≤ N := by omega
              have hb3 : decide ((b : Int) ≤ N) = false := decide_eq_false hb2
              by_cases hmN : m < N
              · have hm2 : (m : Int) < N := by omega
                have hm3 : decide ((m : Int) < N) = true := decide_eq_true hm2
                have sB : Asc (ltK (dayM mm)) (seg r m N) := by
                  have := hH.hi (2 * t + 1) (by omega)
                  rw [two_mul_at1, ← hat, ← hm] at this
                  rwa [seg_end hrl (by omega)] at this
                have HC1 := Lib.hid (HMR.out r hrl a m N wr (by omega) hmN (Nat.le_refl _) sA sB hS)
                have HNX := Lib.hid (fun r' W (hs : Stp (dayM mm) r r' a N) (hw : SW encS w0 blk off r'.toArray W) => (show ∃ r, Flt (dayM mm) l r ∧ Blks (dayM mm) r d2 ∧ SW encS w0 blk off r.toArray W from ⟨r', hF.trans hs.flt, by rw [HD2.out]; exact hH.merge hrl (by omega) (by rw [← hat]; exact hs), hw⟩))
                clear hat hba hF hH hS HI hrl sA sB hm
                go_wp2_with fail
                refine HC1.out.mono ?_
                rintro e W5 ⟨rfl, r', hs, hW⟩
                have HN2 := Lib.hid (HNX.out r' W5 hs hW)
                clear hs hW HNX HC1
                go_wp2_with fail
                go_roundg (G - 1)
                case measure => exact hgd1
                case rel => exact ⟨d2, by first | rfl | go_num, hd4, hd3, hgd, HN2⟩
              · have hm2 : ¬ (m : Int) < N := by omega
                have hm3 : decide ((m : Int) < N) = false := decide_eq_false hm2
                have HN2 : Hid (∃ r, Flt (dayM mm) l r ∧ Blks (dayM mm) r d2 ∧ SW encS w0 blk off r.toArray wr) := ⟨r, hF, by rw [HD2.out]; exact hH.rest hrl (by omega), hS⟩
                clear hat hba hF hH hS HI hrl sA hm
                go_wp2_with fail
                go_roundg (G - 1)
                case measure => exact hgd1
                case rel => exact ⟨d2, by first | rfl | go_num, hd4, hd3, hgd, HN2⟩
        · have hnl : ¬ (bs : Int) < N := by omega
          have hnl2 : decide ((bs : Int) < N) = false := decide_eq_false hnl
          have HFIN : Hid (∃ r, Flt (dayM mm) l r ∧ Asc (ltK (dayM mm)) r ∧ SW encS w0 blk off r.toArray wr) := by
            obtain ⟨r, hF, hB, hS⟩ := HI.out
            exact ⟨r, hF, hB.whole (n := N) (by rw [hF.len]; exact HLL.out) (by omega), hS⟩
          clear HI
          go_wp2_with fail
          go_end0
          exact ⟨rfl, HFIN.out⟩
end Go.Proofs.YtenkbeeiblhnjaaGreat
namespace Go.Proofs.YtenkbeeiblhnjaaGreat
open Go.RowKit Go.Lib
set_option linter.unusedSimpArgs false
set_option linter.unusedVariables false
theorem swapN_perm {l : Array Nat} {i j : Nat} (hi : i < l.size) (hj : j < l.size) : (swapN l i j).toList.Perm l.toList := by
  have h := Array.swap_perm hi hj
  have e : swapN l i j = l.swap i j := by
    unfold swapN
    rw [Array.swap_def, show l.getD j 0 = l[j] by simp [Array.getD, hj], show l.getD i 0 = l[i] by simp [Array.getD, hi]]
    simp only [Array.setIfInBounds, hi, dif_pos, Array.size_set, hj]
  rw [e]
  exact Array.perm_iff_toList_perm.1 h
theorem drawA_perm (n : Nat) : ∀ (k i x : Nat) (l : Array Nat), l.size = n → (0 < k → i + k < n) → (drawA n k i x l).toList.Perm l.toList
  | 0, _, _, _, _, _ => List.Perm.refl _
  | k + 1, i, x, l, hs, hk => by
    have hlt := hk (by omega)
    have hr := Nat.mod_lt (lcgN x) (show 0 < n - i by omega)
    have h1 := drawA_perm n k (i + 1) (lcgN x) (swapN l i (i + lcgN x % (n - i))) (by rw [swapN_size]; exact hs) (by omega)
    exact h1.trans (swapN_perm (by omega) (by omega))
theorem drawN_perm (key n : Nat) : (drawN key n).toList.Perm (List.range n) := by
  have := drawA_perm n (n - 1) 0 key (Array.range n) (by simp) (by omega)
  simpa [drawN] using this
/-- the climbers in the drawn order -/
def drawnS (key : Nat) (cs : List ByteArray) : List ByteArray := (drawN key cs.length).toList.map fun i => cs.getD i ⟨#[]⟩
theorem range_getD : ∀ (cs : List ByteArray), (List.range cs.length).map (fun i => cs.getD i ⟨#[]⟩) = cs := fun cs => by
  apply List.ext_getElem?
  intro i
  by_cases h : i < cs.length
  · simp [h]
  · simp [h, List.getElem?_eq_none (Nat.le_of_not_lt h)]
theorem drawnS_perm (key : Nat) (cs : List ByteArray) : (drawnS key cs).Perm cs := by
  have := (drawN_perm key cs.length).map fun i => cs.getD i (⟨#[]⟩ : ByteArray)
  rw [range_getD] at this
  exact this
theorem drawnS_len (key : Nat) (cs : List ByteArray) : (drawnS key cs).length = cs.length := (drawnS_perm key cs).length_eq
theorem drawnS_at {key : Nat} {cs : List ByteArray} {i : Nat} (h : i < cs.length) (hs : (drawN key cs.length).size = cs.length) : ∃ s, (drawnS key cs)[i]? = some s ∧ cs[(drawN key cs.length).getD i 0]? = some s ∧ (drawN key cs.length).getD i 0 < cs.length := by
  have hp := drawN_perm key cs.length
  generalize hd : drawN key cs.length = d at *
  have hi : i < d.size := by omega
  have hlt : d.getD i 0 < cs.length := by
    have hm : d[i] ∈ List.range cs.length := hp.mem_iff.1 (by simp)
    have e : d.getD i 0 = d[i] := by simp [Array.getD, hi]
    rw [e]
    exact List.mem_range.1 hm
  refine ⟨cs[d.getD i 0], ?_, List.getElem?_eq_getElem hlt, hlt⟩
  have e : d[i]? = some (d.getD i 0) := by simp [Array.getD, hi]
  unfold drawnS
  rw [hd, List.getElem?_map, Array.getElem?_toList, e, Option.map_some, List.getD_eq_getElem?_getD, List.getElem?_eq_getElem hlt]
  rfl
/-- whom the days spare not -/
def freeS (xs : List TstR) (sp d : Int) (s : ByteArray) : Bool := decide (lastZ (lastD d s) xs (-1) < 0) || decide (lastZ (lastD d s) xs (-1) < d - sp)
def poolU (xs : List TstR) (sp d : Int) (l : List ByteArray) : List ByteArray := l.filter (freeS xs sp d)
theorem poolU_take {xs : List TstR} {sp d : Int} {l : List ByteArray} {k : Nat} {s : ByteArray} (h : l[k]? = some s) : poolU xs sp d (l.take (k + 1)) = poolU xs sp d (l.take k) ++ (if freeS xs sp d s then [s] else []) := by
  unfold poolU
  rw [List.take_add_one, h, List.filter_append]
  congr 1
  cases hq : freeS xs sp d s <;> simp [hq]
theorem poolU_len (xs : List TstR) (sp d : Int) (l : List ByteArray) : (poolU xs sp d l).length ≤ l.length := List.length_filter_le _ _
theorem RowA.gr {w w' : World} {g : Nat} {l : Array Nat} (h : RowA w g l) (k : Gr w w') : RowA w' g l := k.block h
theorem MapAt.lt {w : World} {g : Nat} {m : List (ByteArray × Int)} (h : MapAt w g m) : g < w.heap.size := by
  obtain ⟨⟨es, clock, h1, h2⟩⟩ := h
  exact (Array.getElem?_eq_some_iff.1 h1).1
open Go.Sort Go.Shelf in
/-- as the stable sort leaves them -/
def srtM (m : List (ByteArray × Int)) (l : List ByteArray) : List ByteArray := (Sort.insertionSort (ltOf (cmpM m)) l.toArray 0 l.length).toList
open Go.Sort Go.Shelf in
theorem srtM_spec (m : List (ByteArray × Int)) (l : List ByteArray) : (srtM m l).Perm l ∧ (srtM m l).length = l.length ∧ ∀ (i j : Nat) (x y : ByteArray), i < j → (srtM m l)[i]? = some x → (srtM m l)[j]? = some y → dayM m x ≤ dayM m y := by
  obtain ⟨hp, hso⟩ := insertionSort_holds (swo_cmpM m) l.toArray 0 l.length (Nat.zero_le _) (by simp)
  have hsz : (Sort.insertionSort (ltOf (cmpM m)) l.toArray 0 l.length).size = l.length := by rw [hp.1]; simp
  refine ⟨?_, by unfold srtM; rw [Array.length_toList, hsz], ?_⟩
  · have h3 := hp.2.2
    rw [show (Sort.insertionSort (ltOf (cmpM m)) l.toArray 0 l.length).extract 0 l.length = Sort.insertionSort (ltOf (cmpM m)) l.toArray 0 l.length by
      have := hsz; generalize Sort.insertionSort (ltOf (cmpM m)) l.toArray 0 l.length = q at *; rw [← this]; simp, show l.toArray.extract 0 l.length = l.toArray by simp] at h3
    simpa [srtM] using h3
  · intro i j x y hij hi hj
    unfold srtM at hi hj
    rw [Array.getElem?_toList] at hi hj
    obtain ⟨hi2, ex⟩ := Array.getElem?_eq_some_iff.1 hi
    obtain ⟨hj2, ey⟩ := Array.getElem?_eq_some_iff.1 hj
    have := hso i j (Nat.zero_le _) hij (by omega)
    rw [getElem!_pos _ i hi2, getElem!_pos _ j hj2, ex, ey, lt_cmpM, decide_eq_false_iff_not] at this
    omega
open Go.Sort Go.Shelf in
theorem grownBy_sortedS {w : World} {g n : Nat} {os : Array Obj} (d : Array ByteArray) : w.grownBy (sortWorld encS w g 0 n d os) (some g) := by
  unfold sortWorld
  refine ⟨rfl, rfl, rfl, by simp, fun k hk hne => ?_⟩
  rw [heap_grow_old _ _ (by simpa using hk)]
  have : g ≠ k := fun e => hne (by rw [e])
  simp [putRow, mapBlock, Sort.ahead, Array.getElem?_modify, this]
theorem MapAt.keep {w w' : World} {g G : Nat} {m : List (ByteArray × Int)} (h : MapAt w G m) (k : w.grownBy w' (some g)) (hne : G ≠ g) : MapAt w' G m := by
  obtain ⟨⟨es, clock, h1, h2⟩⟩ := h
  obtain ⟨_, _, _, _, hold⟩ := k
  exact ⟨es, clock, by rw [hold G (Array.getElem?_eq_some_iff.1 h1).1 (by intro e; cases e; exact hne rfl)]; exact h1, h2⟩
theorem cell_lt {w : World} {p : Addr} {v : Value} (h : w.cell? p = some v) : p.block < w.heap.size := by
  rcases Nat.lt_or_ge p.block w.heap.size with h2 | h2
  · exact h2
  · simp [World.cell?, Array.getElem?_eq_none h2] at h
theorem cell_keep {w w' : World} {g : Nat} {p : Addr} {v : Value} (h : w.cell? p = some v) (k : w.grownBy w' (some g)) (hne : p.block ≠ g) : w'.cell? p = some v := by
  obtain ⟨_, _, _, _, hold⟩ := k
  have hFl : p.block < w.heap.size := by
    rcases Nat.lt_or_ge p.block w.heap.size with h2 | h2
    · exact h2
    · simp [World.cell?, Array.getElem?_eq_none h2] at h
  have := hold p.block hFl (by intro e; cases e; exact hne rfl)
  simp only [World.cell?] at h ⊢
  rw [this]
  exact h
open Go.Sort Go.Shelf in
set_option maxHeartbeats 1000000 in
set_option maxRecDepth 100000 in
theorem sortSN_c (I : InsSOK) (mm : List (ByteArray × Int)) (cb : Array Value) {w0 : World} {blk off : Nat} (N cap : Nat) (l : List ByteArray) (hl : l.length = N) (hsz : N ≤ 1000) (R : Row1 encS w0 blk off l.toArray) (hC : CmpLays1 Tryz.prog 60 cb encS (cmpM mm) blk off N w0) (w : World) (S : SW encS w0 blk off l.toArray w) :
    Calls Tryz.prog 59 #[.slice (some ⟨blk, off, none⟩) N cap, .func (.func 60) #[] cb] w fun e w' =>
      e = .returned (.tuple #[]) ∧ SW encS w0 blk off (srtM mm l).toArray w' := by
  have HI := Lib.hid (stableN_c I mm cb N cap l hl hsz R hC w S)
  have HU : Hid (∀ r, Flt (dayM mm) l r → Asc (ltK (dayM mm)) r → r = srtM mm l) := fun r hf ha => by
    have hs := ins_step mm l (a := 0) (b := l.length) (Nat.zero_le _) (Nat.le_refl _)
    refine asc_unique (dayM mm) r (srtM mm l) ha ?_ fun k => ?_
    · have := hs.asc
      unfold seg at this
      rw [List.drop_zero, List.take_of_length_le (by rw [hs.flt.len]; exact Nat.le_refl _)] at this
      exact this
    · rw [hf.flt k]
      exact (hs.flt.flt k).symm
  clear hl R hC S I
  go_enter Tryz.func59, Tryz.ntmps59
  go_wp2_with (refine HI.out.mono ?_; rintro e w4 ⟨rfl, r, hf, ha, hW⟩)
  go_end0
  exact ⟨rfl, by rw [← HU.out r hf ha]; exact hW⟩
open Go.Sort Go.Shelf in
theorem sortPool_c (I : InsSOK) (m : List (ByteArray × Int)) (l : List ByteArray) (g cap T G : Nat) (w : World) (h1 : l.length ≤ 1000) (hlt : g < w.heap.size) (hH : Holds encS w g 0 l.toArray)
    (hT : w.cell? ⟨T, 0, none⟩ = some (.map (some G))) (hm : MapAt w G m) (hTg : T ≠ g) (hGg : G ≠ g) :
    Calls Tryz.prog 59 #[.slice (some ⟨g, 0, none⟩) l.length cap, .func (.func 60) #[] #[.pointer (some ⟨T, 0, none⟩)]] w fun e w' =>
      e = .returned (.tuple #[]) ∧ w.grownBy w' (some g) ∧ ∀ i s, (srtM m l)[i]? = some s → StrAt w' g i s := by
  have hcmp : CmpLays1 Tryz.prog 60 #[.pointer (some ⟨T, 0, none⟩)] encS (cmpM m) g 0 l.toArray.size w := by
    intro q os dk _ x y
    have hk := grownBy_sortedS (w := w) (g := g) (n := q) (os := os) dk
    refine (poolCmp_c m T G x y _ (cell_keep hT hk hTg) (hm.keep hk hGg)).mono ?_
    rintro e w' ⟨rfl, rfl⟩
    exact ⟨rfl, 0, #[], by rw [grow_empty]; rfl⟩
  have hR : Row1 encS w g 0 l.toArray := ⟨fun _ => rfl, hH, hlt⟩
  rw [show l.toArray.size = l.length by simp] at hcmp
  have hcall := sortSN_c I m #[.pointer (some ⟨T, 0, none⟩)] l.length cap l rfl h1 hR hcmp w (SW.start hH)
  refine hcall.mono ?_
  rintro e w' ⟨rfl, hSW⟩
  have hsp := srtM_spec m l
  have hHs := hSW.holds hlt hH (by simpa using hsp.2.1)
  refine ⟨rfl, ?_, fun i s hs => ?_⟩
  · obtain ⟨q, os, rfl⟩ := hSW
    exact grownBy_sortedS _
  · have c := (hHs i (by simpa using (List.getElem?_eq_some_iff.1 hs).1)).1
    rw [arr_get hs, Nat.zero_add] at c
    exact ⟨c⟩
open Go.Sort Go.Shelf in
theorem holdsS_of_owns {w : World} {base n : Nat} {v : Value} {l : List ByteArray} {T : TypeId} (hn : l.length = n) (h : w.ownsRow base T 1 v n (strC l)) (h0 : 0 < n) :
    ∃ g cap, v = .slice (some ⟨g, 0, none⟩) n cap ∧ base ≤ g ∧ g < w.heap.size ∧ Holds encS w g 0 l.toArray ∧ n ≤ cap ∧ cap ≤ maxLen := by
  have hh := h
  rcases h.2 with ⟨rfl, h0'⟩ | ⟨g, cap, cur, rfl, hb, hcur, hle, hmx, _, _⟩
  · omega
  · have hlt := (Array.getElem?_eq_some_iff.1 hcur).1
    refine ⟨g, cap, rfl, hb, hlt, fun t ht => ⟨?_, by simp [World.frozen?, hcur]⟩, hle, hmx⟩
    have ht' : t < l.length := by simpa using ht
    have e : (⟨g, 0, none⟩ : Addr).add t = ⟨g, t, none⟩ := by unfold Addr.add; split <;> simp_all
    have c := hh.cells (g := g) rfl t (.string l[t]) (by simp [strC, ht'])
    rw [e] at c
    rw [Nat.zero_add, c, getElem!_pos _ t ht]
    simp [encS]
open Go.Sort Go.Shelf in
theorem ownsS_cases {w : World} {base n : Nat} {v : Value} {l : List ByteArray} {T : TypeId} (hn : l.length = n) (h : w.ownsRow base T 1 v n (strC l)) :
    (v = .slice none 0 0 ∧ l = []) ∨ ∃ g cap, v = .slice (some ⟨g, 0, none⟩) n cap ∧ base ≤ g ∧ g < w.heap.size ∧ Holds encS w g 0 l.toArray ∧ n ≤ cap ∧ cap ≤ maxLen := by
  rcases Nat.eq_zero_or_pos n with h0 | h0
  · have hl : l = [] := List.eq_nil_of_length_eq_zero (by omega)
    subst hl
    rcases h.2 with ⟨e, h00⟩ | ⟨g, cap, cur, e, hb, hcur, hle, hmx, _, _⟩
    · exact .inl ⟨by rw [e], rfl⟩
    · exact .inr ⟨g, cap, e, hb, (Array.getElem?_eq_some_iff.1 hcur).1, fun t ht => absurd ht (by simp), hle, hmx⟩
  · exact .inr (holdsS_of_owns hn h h0)
end Go.Proofs.YtenkbeeiblhnjaaGreat
