/- The fewest neighbours: the program's, the reference's. -/
import Derived.Test.YtcnpmebihdonoaaGreatDoorGNtB
import Derived.Test.YtcnpmebihdonoaaGreatDoorGSpNa
import Derived.Test.YtcnpmebihdonoaaGreatDoorLsP
import Derived.Test.YtcnpmebihdonoaaGreatDoorGNat
import Derived.Shelf.SlSortCmp.Kit1
import Derived.Sort.Grow
import Derived.Test.YtcnpmebihdonoaaGreatDoorGCmp
import Derived.Shelf.SlSortCmp.Insertion1
namespace Go.Proofs.YtcnpmebihdonoaaGreatDoor
open Go.RowKit Go.Lib
set_option linter.unusedSimpArgs false
set_option linter.unusedVariables false
theorem cn_le {α : Type} [DecidableEq α] (y : α) (l : List α) : cn y l ≤ l.length := List.count_le_length
theorem cn_pos {α : Type} [DecidableEq α] {y : α} {l : List α} (h : 0 < cn y l) : y ∈ l := List.count_pos_iff.1 h
/-- M is how many are of the greatest nation -/
structure Most (xs : List EntR) (n M : Nat) : Prop where
  le : ∀ y, cn y (natO xs (List.range n)) ≤ M
  at_ : M = 0 ∨ ∃ y, cn y (natO xs (List.range n)) = M
theorem Most.unique {xs : List EntR} {n M M' : Nat} (h : Most xs n M) (h' : Most xs n M') : M = M' := by
  have h1 : M ≤ M' := by
    rcases h.at_ with e | ⟨y, e⟩
    · omega
    · rw [← e]; exact h'.le y
  have h2 : M' ≤ M := by
    rcases h'.at_ with e | ⟨y, e⟩
    · omega
    · rw [← e]; exact h.le y
  omega
/-- the least number of neighbours -/
def fewV (n M : Nat) : Nat := M - 1 - (n - M)
theorem lowT_cn {α : Type} [DecidableEq α] (a : α) (p : List α) : lowT a p none = 2 * (cn a p : Int) - p.length - 1 := by
  unfold lowT cn
  simp
  omega
theorem greedy_few {xs : List EntR} {n M : Nat} {p : List Nat} (h : Greedy none (natO xs p)) (hp : p.Perm (List.range n)) (hM : Most xs n M) : pairsF none (natO xs p) = fewV n M := by
  have hl : (natO xs p).length = n := by rw [(natO_perm xs hp).length_eq]; simp [natO_eq]
  have hc : ∀ y, cn y (natO xs p) = cn y (natO xs (List.range n)) := fun y => cn_perm y (natO_perm xs hp)
  have hMn : M ≤ n := by
    rcases hM.at_ with e | ⟨y, e⟩
    · omega
    · rw [← e]
      have := cn_le y (natO xs (List.range n))
      simpa [natO_eq] using this
  have hlow : (2 * (M : Int) - n - 1) ≤ pairsF none (natO xs p) := by
    rcases hM.at_ with e | ⟨y, e⟩
    · omega
    · have := lowT_le y (natO xs p) none
      rw [lowT_cn, hc, e, hl] at this
      exact this
  unfold fewV
  rcases greedy_eq (natO xs p) none h with h0 | ⟨a, ha⟩
  · omega
  · rw [lowT_cn, hc, hl] at ha
    have := hM.le a
    omega
/-- the greatest of the first ones -/
def mostL (L : List Nat) (t : Nat) : Nat := (L.take t).foldl max 0
theorem mostL_step {L : List Nat} {t a : Nat} (h : L[t]? = some a) : mostL L (t + 1) = max (mostL L t) a := by
  unfold mostL
  rw [List.take_add_one, h]
  simp
theorem mostL_le {L : List Nat} : ∀ {t a : Nat}, a ∈ L.take t → a ≤ mostL L t
  | 0, a, h => by simp at h
  | t + 1, a, h => by
    cases hb : L[t]? with
    | none =>
      have e : L.take (t + 1) = L.take t := by rw [List.take_add_one, hb]; simp
      unfold mostL
      rw [e] at h ⊢
      exact mostL_le h
    | some b =>
      rw [mostL_step hb]
      rw [List.take_add_one, hb] at h
      rcases List.mem_append.1 h with h1 | h1
      · have := mostL_le h1
        omega
      · simp at h1
        omega
theorem mostL_at {L : List Nat} : ∀ (t : Nat), mostL L t = 0 ∨ ∃ a ∈ L, a = mostL L t
  | 0 => .inl (by simp [mostL])
  | t + 1 => by
    cases hb : L[t]? with
    | none =>
      have e : L.take (t + 1) = L.take t := by rw [List.take_add_one, hb]; simp
      have := mostL_at (L := L) t
      unfold mostL at this ⊢
      rw [e]
      exact this
    | some b =>
      rw [mostL_step hb]
      rcases Nat.le_total (mostL L t) b with h | h
      · rw [Nat.max_eq_right h]
        exact .inr ⟨b, List.mem_of_getElem? hb, rfl⟩
      · rw [Nat.max_eq_left h]
        exact mostL_at t
theorem most_teams {xs : List EntR} {n : Nat} {ks : List (ByteArray × Nat)} {L : List (List Nat)} (h : TmF xs n ks L) : Most xs n (mostL (L.map List.length) L.length) := by
  have hA := ApI.start h
  have hc := fun y => hA.count y
  have hall : ∀ l ∈ L, l.length ≤ mostL (L.map List.length) L.length := fun l hl => mostL_le (by
    rw [List.take_of_length_le (by simp)]
    exact List.mem_map.2 ⟨l, hl, rfl⟩)
  refine ⟨fun y => ?_, ?_⟩
  · rw [hc y]
    rcases count_left xs y L hA.pair hA.same with ⟨h0, _⟩ | ⟨l, hl, _, h0⟩
    · rw [h0]; simp [natO_eq, cn]
    · rw [h0]
      have := hall l hl
      simpa [natO_eq, cn] using this
  · rcases mostL_at (L := L.map List.length) L.length with h0 | ⟨a, ha, he⟩
    · exact .inl h0
    · obtain ⟨l, hl, rfl⟩ := List.mem_map.1 ha
      cases l with
      | nil => exact .inl he.symm
      | cons b l =>
        refine .inr ⟨natA xs b, ?_⟩
        rw [hc, count_team xs hA.pair hA.same hl (a := b) (by simp), ← he]
        simp [natO_eq, cn]
/-- how many of all are of the nation of one -/
def cntA (xs : List EntR) (n i : Nat) : Nat := cn (natA xs i) (natO xs (List.range n))
theorem most_all (xs : List EntR) (n : Nat) : Most xs n (mostL ((List.range n).map (cntA xs n)) n) := by
  refine ⟨fun y => ?_, ?_⟩
  · rcases Nat.eq_zero_or_pos (cn y (natO xs (List.range n))) with h0 | h0
    · omega
    · have h9 := cn_pos h0
      rw [natO_eq] at h9
      obtain ⟨i, hi, rfl⟩ := List.mem_map.1 h9
      refine mostL_le ?_
      rw [List.take_of_length_le (by simp)]
      exact List.mem_map.2 ⟨i, hi, rfl⟩
  · rcases mostL_at (L := (List.range n).map (cntA xs n)) n with h0 | ⟨a, ha, he⟩
    · exact .inl h0
    · obtain ⟨i, _, rfl⟩ := List.mem_map.1 ha
      exact .inr ⟨natA xs i, he⟩
theorem few_val {n M : Nat} (hM : M ≤ n) : max (0 : Int) ((M : Int) - 1 - ((n : Int) - (M : Int))) = ((fewV n M : Nat) : Int) := by
  unfold fewV
  omega
set_option maxHeartbeats 4000000 in
set_option maxRecDepth 100000 in
theorem fewest_good (xs : List EntR) (v : Value) (w : World) (hv : EntAts w v xs) (h1 : xs.length ≤ 160)
    (HC : ∀ W, Gr w W → Calls Tryz.prog 41 #[v] W fun e w' => e = .returned (.int .i64 0) ∧ Gr W w') :
    Calls Tryz.prog 13 #[v] w fun e w' => ∃ M, Most xs xs.length M ∧ M ≤ xs.length ∧ e = .returned (.tuple #[.int .i64 ((fewV xs.length M : Nat) : Int), .int .i64 0]) ∧ Gr w w' := by
  have HT := Lib.hid (fun W (g : Gr w W) => teams_c xs v W (hv.gr g) (by omega))
  have HCk' := Lib.hid HC
  obtain ⟨⟨pv, cap, rfl, _, _⟩⟩ := hv
  obtain ⟨n, hn⟩ : ∃ n, n = xs.length := ⟨_, rfl⟩
  rw [← hn] at h1 HT HCk' ⊢
  clear hn HC
  go_enter Tryz.func13, Tryz.ntmps13
  go_wp2_with fail
  refine (HCk'.out _ (Gr.refl w)).mono ?_
  rintro e W0 ⟨rfl, g0⟩
  go_wp2_with fail
  refine (HT.out _ g0).mono ?_
  rintro e W1 ⟨tv, vs, ks, L, mg, rfl, hT, hF, g1⟩
  have HG1 := Lib.hid (g0.trans g1)
  have HTM := Lib.hid hT
  have HMO := Lib.hid (most_teams hF)
  have HLE := Lib.hid hF.le
  have HFW := Lib.hid hF.few
  obtain ⟨tp, tc, rfl, _, _⟩ := own_shape hT.own
  have HLN := Lib.hid hT.len
  obtain ⟨N, hN⟩ : ∃ N, N = vs.length := ⟨_, rfl⟩
  rw [← hN] at HLN HTM ⊢
  have HNV := Lib.hid hN
  have hNn : N ≤ n := by rw [HLN.out]; exact HFW.out
  have hMn : ∀ t, mostL (L.map List.length) t ≤ n := fun t => by
    rcases mostL_at (L := L.map List.length) t with h0 | ⟨a, ha, he⟩
    · omega
    · rw [← he]
      obtain ⟨l, hl, rfl⟩ := List.mem_map.1 ha
      exact HLE.out l hl
  have HMN := Lib.hid hMn
  clear hT g0 g1 hF hN hMn
  go_wp2_with fail
  go_loopg [5, 7, 17] N (fun gk s5 s7 s17 wr => ∃ t : Nat, s17 = .int .i64 (t : Int) ∧ gk + t = N ∧ s5 = .int .i64 (mostL (L.map List.length) t : Nat) ∧ Hid (Gr W1 wr))
  case atStart => exact ⟨0, rfl, by omega, by simp [mostL], Gr.refl _⟩
  case round =>
    obtain ⟨t, rfl, hgk, rfl, HG⟩ := hrel
    by_cases hlt : t < N
    · obtain ⟨u, hu⟩ : ∃ u, vs[t]? = some u := ⟨vs[t]'(by rw [← HNV.out]; exact hlt), List.getElem?_eq_getElem _⟩
      obtain ⟨l, hl⟩ := HTM.out.at_ hu
      obtain ⟨p1, c1, rfl, _, _⟩ := own_shape (HTM.out.row t u l hu hl)
      obtain ⟨G, capG, e, f0⟩ := HTM.out.outer hu
      simp only [Value.slice.injEq] at e
      obtain ⟨rfl, _, _⟩ := e
      have f1 := HG.out.cell f0
      have hti : (t : Int) < N := by omega
      have hst := mostL_step (L := L.map List.length) (t := t) (a := l.length) (by rw [List.getElem?_map, hl]; rfl)
      have hln := HLE.out l (List.mem_of_getElem? hl)
      have hmt := HMN.out t
      generalize mostL (L.map List.length) t = mt at *
      generalize l.length = ll at *
      clear hu hl f0
      rcases Nat.le_total mt ll with h | h
      · have HS : Hid (mostL (L.map List.length) (t + 1) = ll) := by unfold Hid; rw [hst, Nat.max_eq_right h]
        have hmx : max (mt : Int) (ll : Int) = (ll : Int) := by omega
        clear hst
        go_wp2_with fail
        go_roundg (gk - 1)
        case measure => omega
        case rel => exact ⟨t + 1, by go_num, by omega, by rw [HS.out], HG.out⟩
      · have HS : Hid (mostL (L.map List.length) (t + 1) = mt) := by unfold Hid; rw [hst, Nat.max_eq_left h]
        have hmx : max (mt : Int) (ll : Int) = (mt : Int) := by omega
        clear hst
        go_wp2_with fail
        go_roundg (gk - 1)
        case measure => omega
        case rel => exact ⟨t + 1, by go_num, by omega, by rw [HS.out], HG.out⟩
    · obtain rfl : t = N := by omega
      have hti : (t : Int) ≤ t := by omega
      rw [← HLN.out] at HMO
      have hMt := HMN.out t
      generalize mostL (L.map List.length) t = M at *
      have hfv := few_val hMt
      have w1 : IntKind.i64.wrap ((n : Int) - (M : Int)) = (n : Int) - (M : Int) := by rw [IntKind.wrap_i64] <;> omega
      have w2 : IntKind.i64.wrap ((M : Int) - 1) = (M : Int) - 1 := by rw [IntKind.wrap_i64] <;> omega
      have w3 : IntKind.i64.wrap ((M : Int) - 1 - ((n : Int) - (M : Int))) = (M : Int) - 1 - ((n : Int) - (M : Int)) := by rw [IntKind.wrap_i64] <;> omega
      have HG2 := Lib.hid (HG1.out.trans HG.out)
      obtain ⟨F, hF9⟩ : ∃ F, F = fewV n M := ⟨_, rfl⟩
      rw [← hF9] at hfv
      have HF9 := Lib.hid hF9
      clear hF9
      go_wp2_with fail
      exact bodyPost_ret (v := .tuple #[.int .i64 (F : Int), .int .i64 0]) (by simp [results, Tryz.results13, go_sem]) rfl ⟨M, HMO.out, hMt, by rw [HF9.out], HG2.out⟩
set_option maxHeartbeats 4000000 in
set_option maxRecDepth 100000 in
theorem refFewest_c (xs : List EntR) (v : Value) (w : World) (hv : EntAts w v xs) (h1 : xs.length ≤ 160) :
    Calls Tryz.prog 18 #[v] w fun e w' => ∃ M, Most xs xs.length M ∧ M ≤ xs.length ∧ e = .returned (.int .i64 ((fewV xs.length M : Nat) : Int)) ∧ Gr w w' := by
  obtain ⟨⟨pv, cap, rfl, _, hh⟩⟩ := hv
  have HH := Lib.hid hh
  obtain ⟨n, hn⟩ : ∃ n, n = xs.length := ⟨_, rfl⟩
  rw [← hn] at h1 HH ⊢
  have HN := Lib.hid hn
  have HMO := Lib.hid (most_all xs n)
  have HCN := Lib.hid (fun i => (show cntA xs n i ≤ n from by unfold cntA; have := cn_le (natA xs i) (natO xs (List.range n)); simpa [natO_eq] using this))
  have HMN : Hid (∀ t, mostL ((List.range n).map (cntA xs n)) t ≤ n) := fun t => by
    rcases mostL_at (L := (List.range n).map (cntA xs n)) t with h0 | ⟨a, ha, he⟩
    · omega
    · rw [← he]
      obtain ⟨i, _, rfl⟩ := List.mem_map.1 ha
      exact HCN.out i
  clear hh hn
  go_enter Tryz.func18, Tryz.ntmps18
  go_wp2_with fail
  go_loopg [3, 4, 5, 6] n (fun gk s3 s4 s5 s6 wr => ∃ t : Nat, s4 = .int .i64 (t : Int) ∧ gk + t = n ∧ s3 = .int .i64 (mostL ((List.range n).map (cntA xs n)) t : Nat) ∧ Hid (Gr w wr))
  case atStart => exact ⟨0, rfl, by omega, by simp [mostL], Gr.refl _⟩
  case round =>
    obtain ⟨t, rfl, hgk, rfl, HG⟩ := hrel
    obtain ⟨GK, rfl⟩ : ∃ G, G = gk := ⟨gk, rfl⟩
    by_cases hlt : t < n
    · obtain ⟨x, hx⟩ : ∃ x, xs[t]? = some x := ⟨xs[t]'(by have := HN.out; omega), List.getElem?_eq_getElem _⟩
      obtain ⟨b, off, rfl, hc⟩ := HH.out (by omega)
      have hti : (t : Int) < n := by omega
      have hst := mostL_step (L := (List.range n).map (cntA xs n)) (t := t) (a := cntA xs n t) (by rw [List.getElem?_map, List.getElem?_range hlt]; rfl)
      have hln := HCN.out t
      have hmt := HMN.out t
      have HNA := Lib.hid (natA_at hx)
      have HC := Lib.hid hc
      have HX := Lib.hid hx
      generalize mostL ((List.range n).map (cntA xs n)) t = mt at *
      have HST := Lib.hid hst
      clear hst hc hx
      go_wp2_with fail
      go_loopg [5, 6] n (fun gk s5 s6 wr => ∃ k : Nat, s6 = .int .i64 (k : Int) ∧ gk + k = n ∧ s5 = .int .i64 (cn (natA xs t) (natO xs (List.range k)) : Nat) ∧ Hid (Gr w wr))
      case atStart => exact ⟨0, rfl, by omega, by simp [cn, natO_eq], HG.out⟩
      case round =>
        clear HG
        obtain ⟨k, rfl, hgk2, rfl, HG⟩ := hrel
        by_cases hki : k < n
        · obtain ⟨y, hy⟩ : ∃ y, xs[k]? = some y := ⟨xs[k]'(by have := HN.out; omega), List.getElem?_eq_getElem _⟩
          obtain ⟨c0, c1, c2⟩ := (HC.out t x HX.out).gr HG.out
          obtain ⟨d0, d1, d2⟩ := (HC.out k y hy).gr HG.out
          have hkk : (k : Int) < n := by omega
          have hstep : cn (natA xs t) (natO xs (List.range (k + 1))) = cn (natA xs t) (natO xs (List.range k)) + if y.na.toList = x.na.toList then 1 else 0 := by
            have e : natO xs (List.range (k + 1)) = natO xs (List.range k) ++ [natA xs k] := by rw [List.range_succ]; simp [natO_eq]
            rw [e, cn_app, natA_at hy, HNA.out]
            by_cases e9 : y.na.toList = x.na.toList
            · rw [if_pos e9, e9]; exact congrArg _ (cn_all (l := [x.na.toList]) (by simp))
            · rw [if_neg e9, cn_none (y := x.na.toList) (l := [y.na.toList]) (fun hq => e9 (List.mem_singleton.1 hq).symm)]
          have hcl : cn (natA xs t) (natO xs (List.range k)) ≤ 160 := by
            have := cn_le (natA xs t) (natO xs (List.range k))
            have e : (natO xs (List.range k)).length = k := by simp [natO_eq]
            omega
          generalize cn (natA xs t) (natO xs (List.range k)) = cnt at *
          clear hy
          cases hb : (y.na.toList == x.na.toList)
          · have hs2 : Hid (cn (natA xs t) (natO xs (List.range (k + 1))) = cnt) := by
              have : ¬ y.na.toList = x.na.toList := by simpa using hb
              rw [Hid, hstep, if_neg this]
              rfl
            clear hstep
            go_wp2_with fail
            go_big_quiet (fail)
            go_wp2_with fail
            go_roundg (gk - 1)
            case measure => omega
            case rel => exact ⟨k + 1, by go_num, by omega, by rw [hs2.out], HG.out.drewN _⟩
          · have hs2 : Hid (cn (natA xs t) (natO xs (List.range (k + 1))) = cnt + 1) := by
              have : y.na.toList = x.na.toList := by simpa using hb
              rw [Hid, hstep, if_pos this]
            clear hstep
            go_wp2_with fail
            go_big_quiet (fail)
            go_wp2_with fail
            go_roundg (gk - 1)
            case measure => omega
            case rel => exact ⟨k + 1, by go_num, by omega, by rw [hs2.out]; go_num, HG.out.drewN _⟩
        · obtain rfl : k = n := by omega
          have hkk : (k : Int) ≤ k := by omega
          have HCA : Hid (cn (natA xs t) (natO xs (List.range k)) = cntA xs k t) := rfl
          rw [HCA.out]
          generalize cntA xs k t = ll at *
          rcases Nat.le_total mt ll with h | h
          · have HS : Hid (mostL ((List.range k).map (cntA xs k)) (t + 1) = ll) := by unfold Hid; rw [HST.out, Nat.max_eq_right h]
            have hmx : max (mt : Int) (ll : Int) = (ll : Int) := by omega
            go_wp2_with fail
            go_roundg (GK - 1)
            case measure => omega
            case rel => exact ⟨t + 1, by go_num, by omega, by rw [HS.out], HG.out⟩
          · have HS : Hid (mostL ((List.range k).map (cntA xs k)) (t + 1) = mt) := by unfold Hid; rw [HST.out, Nat.max_eq_left h]
            have hmx : max (mt : Int) (ll : Int) = (mt : Int) := by omega
            go_wp2_with fail
            go_roundg (GK - 1)
            case measure => omega
            case rel => exact ⟨t + 1, by go_num, by omega, by rw [HS.out], HG.out⟩
    · obtain rfl : t = n := by omega
      have hti : (t : Int) ≤ t := by omega
      have hMt := HMN.out t
      generalize mostL ((List.range t).map (cntA xs t)) t = M at *
      have hfv := few_val hMt
      have w1 : IntKind.i64.wrap ((t : Int) - (M : Int)) = (t : Int) - (M : Int) := by rw [IntKind.wrap_i64] <;> omega
      have w2 : IntKind.i64.wrap ((M : Int) - 1) = (M : Int) - 1 := by rw [IntKind.wrap_i64] <;> omega
      have w3 : IntKind.i64.wrap ((M : Int) - 1 - ((t : Int) - (M : Int))) = (M : Int) - 1 - ((t : Int) - (M : Int)) := by rw [IntKind.wrap_i64] <;> omega
      obtain ⟨F, hF9⟩ : ∃ F, F = fewV t M := ⟨_, rfl⟩
      rw [← hF9] at hfv
      have HF9 := Lib.hid hF9
      clear hF9
      go_wp2_with fail
      go_ret
      exact ⟨M, HMO.out, hMt, by rw [HF9.out]; rfl, HG.out⟩
end Go.Proofs.YtcnpmebihdonoaaGreatDoor
namespace Go.Proofs.YtcnpmebihdonoaaGreatDoor
open Go.RowKit Go.Lib
set_option linter.unusedSimpArgs false
set_option linter.unusedVariables false
set_option maxHeartbeats 1000000 in
set_option maxRecDepth 100000 in
theorem sameI_c {zs : List Int} {n : Nat} {q1 q2 : Option Addr} {c c2 : Nat} {w : World} (h : IntS w q1 n zs) (h2 : IntS w q2 n zs) (hs : n ≤ 1000) :
    Calls Tryz.prog 10 #[.slice q1 n c, .slice q2 n c2] w fun e w' => e = .returned (.bool true) ∧ Gr w w' := by
  have HA := Lib.hid h.out
  have HB := Lib.hid h2.out
  have HN := Lib.hid h.len
  clear h h2
  go_enter Tryz.func10, Tryz.ntmps10
  go_wp2_with fail
  go_loopg [5] n (fun gk s5 wr => ∃ k : Nat, s5 = .int .i64 k ∧ gk + k = n ∧ Gr w wr)
  case atStart => exact ⟨0, rfl, by omega, Gr.refl _⟩
  case round =>
    obtain ⟨k, rfl, hk, hg⟩ := hrel
    by_cases hlt : k < n
    · obtain ⟨x, hx⟩ : ∃ x, zs[k]? = some x := ⟨zs[k]'(by have := HN.out; omega), List.getElem?_eq_getElem _⟩
      obtain ⟨b1, o1, rfl, ha⟩ := HA.out (by omega)
      obtain ⟨b2, o2, rfl, hb⟩ := HB.out (by omega)
      have a0 := hg.cell (ha k x hx)
      have b0 := hg.cell (hb k x hx)
      have hi : (k : Int) < (n : Int) := by omega
      clear hx ha hb
      go_wp2_with fail
      go_quiet (fail)
      go_wp2_with fail
      go_roundg (gk - 1)
      case measure => omega
      case rel => exact ⟨k + 1, by go_num, by omega, hg.drewN _⟩
    · obtain rfl : k = n := by omega
      have hi : (k : Int) ≤ k := by omega
      go_wp2_with fail
      go_ret
      exact ⟨rfl, hg⟩
set_option maxHeartbeats 1000000 in
set_option maxRecDepth 100000 in
theorem routes_bad (a : List Int) (m cap : Nat) (p : Option Addr) (w : World) (hcap : m ≤ cap) (hz : IntS w p m a) (h : numsE a ≠ 0) :
    Calls Tryz.prog 8 #[.slice p m cap] w fun e w' => e = .returned (.tuple #[.slice none 0 0, .slice none 0 0, .int .i64 (numsE a)]) ∧ Gr w w' := by
  have HC := Lib.hid (checkNums_c a m cap p w hcap hz)
  generalize numsE a = T at *
  have q2 : (T != 0) = true := bne_iff_ne.2 h
  clear hz h
  go_enter Tryz.func8, Tryz.ntmps8
  go_wp2_with fail
  refine HC.out.mono ?_
  rintro e W1 ⟨rfl, g⟩
  go_wp2_with fail
  exact bodyPost_ret (v := .tuple #[.slice none 0 0, .slice none 0 0, .int .i64 T]) (by simp [results, Tryz.results8, go_sem]) rfl ⟨rfl, g⟩
/-- the half that the second route begins behind -/
theorem half_div (m : Nat) : Int.tdiv ((m : Int) + 1) 2 = (((m + 1) / 2 : Nat) : Int) := by
  rw [Int.tdiv_eq_ediv_of_nonneg (by omega)]
  omega
set_option maxHeartbeats 1000000 in
set_option maxRecDepth 100000 in
theorem routes_good (a : List Int) (m cap : Nat) (p : Option Addr) (w : World) (hcap : m ≤ cap) (hz : IntS w p m a) (h : numsE a = 0) (h1 : m ≤ 400) :
    Calls Tryz.prog 8 #[.slice p m cap] w fun e w' => ∃ p1 c1 p2 c2, e = .returned (.tuple #[.slice p1 m c1, .slice p2 m c2, .int .i64 0]) ∧ IntS w' p1 m a ∧ IntS w' p2 m (a.drop ((m + 1) / 2) ++ a.take ((m + 1) / 2)) ∧ Gr w w' := by
  have HC0 := checkNums_c a m cap p w hcap hz
  rw [h] at HC0
  have HC := Lib.hid HC0
  have HK := Lib.hid (fun W (g : Gr w W) => cloneI_c p m cap a W (hz.gr g) (by omega))
  have HT := Lib.hid (fun W (g : Gr w W) => turnedI_c p m cap ((m + 1) / 2) a W (hz.gr g) (by omega) hcap h1)
  have hd := half_div m
  obtain ⟨hh, hhe⟩ : ∃ x, x = (m + 1) / 2 := ⟨_, rfl⟩
  rw [← hhe] at HT hd ⊢
  have hw : IntKind.i64.wrap ((m : Int) + 1) = (m : Int) + 1 := by rw [IntKind.wrap_i64] <;> omega
  have hw2 : IntKind.i64.wrap (hh : Int) = (hh : Int) := by rw [IntKind.wrap_i64]; omega
  clear hz h HC0 hhe
  go_enter Tryz.func8, Tryz.ntmps8
  go_wp2_with fail
  refine HC.out.mono ?_
  rintro e W1 ⟨rfl, g⟩
  go_wp2_with fail
  refine (HK.out _ g).mono ?_
  rintro e W2 ⟨p1, c1, rfl, ho1, hg⟩
  have g2 := g.trans hg
  go_wp2_with fail
  refine (HT.out _ g2).mono ?_
  rintro e W3 ⟨p2, c2, rfl, ho2, hg3⟩
  have HO1 := Lib.hid ((IntS.of_own ho1).gr hg3)
  have HO2 := Lib.hid (IntS.of_own ho2)
  have HG3 := Lib.hid (g2.trans hg3)
  clear ho1 ho2 hg hg3 g g2
  go_wp2_with fail
  exact bodyPost_ret (v := .tuple #[.slice p1 m c1, .slice p2 m c2, .int .i64 0]) (by simp [results, Tryz.results8, go_sem]) rfl ⟨p1, c1, p2, c2, rfl, HO1.out, HO2.out, HG3.out⟩
set_option maxHeartbeats 1000000 in
set_option maxRecDepth 100000 in
theorem refSecond_c (q : Option Addr) (m c : Nat) (zs : List Int) (w : World) (hz : IntS w q m zs) (hc : m ≤ c) (h1 : m ≤ 400) :
    Calls Tryz.prog 11 #[.slice q m c] w fun e w' => ∃ p cp, e = .returned (.slice p m cp) ∧ IntS w' p m (zs.drop ((m + 1) / 2) ++ zs.take ((m + 1) / 2)) ∧ Gr w w' := by
  have hd := half_div m
  obtain ⟨h, hhe⟩ : ∃ x, x = (m + 1) / 2 := ⟨_, rfl⟩
  rw [← hhe] at hd ⊢
  have hh : h ≤ m := by omega
  have hw : IntKind.i64.wrap ((m : Int) + 1) = (m : Int) + 1 := by rw [IntKind.wrap_i64] <;> omega
  have hw2 : IntKind.i64.wrap (h : Int) = (h : Int) := by rw [IntKind.wrap_i64]; omega
  obtain ⟨AQ, hAQ⟩ : ∃ A, A = (if c = h then q else q.map (·.add h)) := ⟨_, rfl⟩
  have hdr := hz.drop hh hc
  rw [← hAQ] at hdr
  have HAQ := Lib.hid hAQ
  have HD0 := Lib.hid (hdr.gr ((Gr.refl w).drew))
  have HT := Lib.hid (hz.take hh)
  have i1 : (h : Int) ≤ m := by omega
  have i2 : (h : Int) ≤ c := by omega
  have i3 : (0 : Int) ≤ h := by omega
  have HSZ : Hid (w.heap.size ≤ w.drew.heap.size ∧ Gr w w.drew) := ⟨((Gr.refl w).drew).size, (Gr.refl w).drew⟩
  have HE0 := Lib.hid (own_empty' (base := w.heap.size) (heap_alloc_new w.drew (.cells #[] 3)) HSZ.out.1)
  have HA00 : Hid (w.heap.size ≤ (w.drew.alloc (.cells #[] 3)).heap.size) := Nat.le_trans HSZ.out.1 ((Gr.refl w.drew).alloc (.cells #[] 3)).size
  have HMH : Hid (m - h + h = m) := by unfold Hid; omega
  clear hz hdr hAQ hhe
  go_enter Tryz.func11, Tryz.ntmps11
  go_wp2_with fail
  have HD := HD0
  have HE := HE0
  have HA0 := HA00
  refine wp_region_held_drew (S := (fun w' => True)) (by kernel_rfl) trivial (fun hHeld => ?_)
  generalize hV : w.drew = V at *
  clear hV
  refine wpAnyH_take (i := 1) (v := (.slice q m c)) (op_at rfl) (by kernel_rfl) (by kernel_rfl) (by kernel_rfl) (fun _ _ _ h => h) (Or.inl ⟨rfl, fun w hSw => ?_⟩) (by assumption) ?_
  · (try dsimp only at hSw); go_simp; try with_reducible rfl
  (try simp only [Act.put, List.setIfInBounds_toArray, List.set_cons_zero, List.set_cons_succ])
  refine wpAnyH_take (i := 2) (v := (.int .i64 (h : Int))) (op_at rfl) (by kernel_rfl) (by kernel_rfl) (by kernel_rfl) (fun _ _ _ h => h) (Or.inl ⟨rfl, fun w hSw => ?_⟩) (by assumption) ?_
  · (try dsimp only at hSw); go_simp; try with_reducible rfl
  (try simp only [Act.put, List.setIfInBounds_toArray, List.set_cons_zero, List.set_cons_succ])
  refine wpAnyH_take (i := 3) (v := (.slice AQ (m - h) (c - h))) (op_at rfl) (by kernel_rfl) (by kernel_rfl) (by kernel_rfl) (fun _ _ _ h => h) (Or.inl ⟨rfl, fun w hSw => ?_⟩) (by assumption) ?_
  · (try dsimp only at hSw); go_simp; exact HAQ.out.symm
  (try simp only [Act.put, List.setIfInBounds_toArray, List.set_cons_zero, List.set_cons_succ])
  refine wpAnyH_take (i := 5) (v := (.slice q m c)) (op_at rfl) (by kernel_rfl) (by kernel_rfl) (by kernel_rfl) (fun _ _ _ h => h) (Or.inl ⟨rfl, fun w hSw => ?_⟩) (by assumption) ?_
  · (try dsimp only at hSw); go_simp; try with_reducible rfl
  (try simp only [Act.put, List.setIfInBounds_toArray, List.set_cons_zero, List.set_cons_succ])
  refine wpAnyH_take (i := 6) (v := (.int .i64 (h : Int))) (op_at rfl) (by kernel_rfl) (by kernel_rfl) (by kernel_rfl) (fun _ _ _ h => h) (Or.inl ⟨rfl, fun w hSw => ?_⟩) (by assumption) ?_
  · (try dsimp only at hSw); go_simp; try with_reducible rfl
  (try simp only [Act.put, List.setIfInBounds_toArray, List.set_cons_zero, List.set_cons_succ])
  refine wpAnyH_take (i := 7) (v := (.slice q h c)) (op_at rfl) (by kernel_rfl) (by kernel_rfl) (by kernel_rfl) (fun _ _ _ h => h) (Or.inl ⟨rfl, fun w hSw => ?_⟩) (by assumption) ?_
  · (try dsimp only at hSw); go_simp; try with_reducible rfl
  (try simp only [Act.put, List.setIfInBounds_toArray, List.set_cons_zero, List.set_cons_succ])
  refine wpAnyH_ready (rs := [0]) (by kernel_rfl) (by simp) (AllReadyH.cons (op_at rfl) (fun K hK => ?_) AllReadyH.nil)
  go_simp
  refine hK.out _ _ trivial (fun hHeld => ?_)
  clear hK K
  (try simp only [Act.put, List.setIfInBounds_toArray, List.set_cons_zero, List.set_cons_succ])
  refine wpAnyH_ready (rs := [4]) (by kernel_rfl) (by simp) (AllReadyH.cons (op_at rfl) (fun K hK => ?_) AllReadyH.nil)
  rw [if_pos (show Region.wanted _ _ = true from rfl)]
  refine step_ints _ _ rfl w.heap.size _ 0 [] rfl HE.out AQ (m - h) (c - h) (zs.drop h) rfl (HD.out.gr ((Gr.refl V).alloc _)) (by omega) HA0.out ?_
  intro v1 w1 hown1 hgrow1
  rw [Nat.zero_add, List.nil_append] at hown1
  obtain ⟨p1, cc1, rfl, _, _⟩ := own_shape hown1
  have C1 := Lib.hid hown1
  have C2 : Hid (Gr w w1) := Below.grown (HSZ.out.2.trans ((Gr.refl V).alloc (.cells #[] 3))) hgrow1 HA0.out (fun j hj => (own_in HE.out hj).2)
  have C3 : Hid (V.heap.size ≤ w1.heap.size) := Nat.le_trans ((Gr.refl V).alloc (.cells #[] 3)).size hgrow1.size
  have C4 : Hid (IntS w1 q h (zs.take h)) := (HT.out.gr (C2.out))
  clear hown1 hgrow1
  refine hK.out _ _ trivial (fun hHeld => ?_)
  clear hK K
  (try simp only [Act.put, List.setIfInBounds_toArray, List.set_cons_zero, List.set_cons_succ])
  refine wpAnyH_ready (rs := [8]) (by kernel_rfl) (by simp) (AllReadyH.cons (op_at rfl) (fun K hK => ?_) AllReadyH.nil)
  rw [if_pos (show Region.wanted _ _ = true from rfl)]
  refine step_ints _ _ rfl w.heap.size _ (m - h) (ints (zs.drop h)) rfl C1.out q h c (zs.take h) rfl C4.out (by omega) C2.out.size ?_
  intro v2 w2 hown2 hgrow2
  rw [← ints_append] at hown2
  have D1 := Lib.hid hown2
  have D2 : Hid (Gr w w2) := Below.grown C2.out hgrow2 C2.out.size (fun j hj => (own_in C1.out hj).2)
  clear hown2 hgrow2
  refine hK.out _ _ trivial (fun hHeld => ?_)
  clear hK K
  (try simp only [Act.put, List.setIfInBounds_toArray, List.set_cons_zero, List.set_cons_succ])
  refine wpAnyH_take (i := 9) (v := v2) (op_at rfl) (by kernel_rfl) (by kernel_rfl) (by kernel_rfl) (fun _ _ _ h => h) (Or.inl ⟨rfl, fun w hSw => ?_⟩) (by assumption) ?_
  · (try dsimp only at hSw); go_simp; try with_reducible rfl
  (try simp only [Act.put, List.setIfInBounds_toArray, List.set_cons_zero, List.set_cons_succ])
  refine wpAnyH_done (by kernel_rfl) ?_ _
  go_wp2_with fail
  go_ret
  have := D1.out
  rw [HMH.out] at this
  obtain ⟨p9, c9, rfl, _, _⟩ := own_shape this
  exact ⟨p9, c9, rfl, IntS.of_own this, D2.out⟩
set_option maxHeartbeats 1000000 in
set_option maxRecDepth 100000 in
theorem nb_bad1 (T : Int) (v : Value) (o : Value) (w : World) (h : T ≠ 0) (HC : Calls Tryz.prog 41 #[v] w fun e w' => e = .returned (.int .i64 T) ∧ Gr w w') :
    Calls Tryz.prog 12 #[v, o] w fun e w' => e = .returned (.tuple #[.int .i64 0, .int .i64 T]) ∧ Gr w w' := by
  have q2 : (T != 0) = true := bne_iff_ne.2 h
  replace HC := Lib.hid HC
  clear h
  go_enter Tryz.func12, Tryz.ntmps12
  go_wp2_with fail
  refine HC.out.mono ?_
  rintro e W1 ⟨rfl, g⟩
  go_wp2_with fail
  exact bodyPost_ret (v := .tuple #[.int .i64 0, .int .i64 T]) (by simp [results, Tryz.results12, go_sem]) rfl ⟨rfl, g⟩
set_option maxHeartbeats 1000000 in
set_option maxRecDepth 100000 in
theorem few_bad (T : Int) (v : Value) (w : World) (h : T ≠ 0) (HC : Calls Tryz.prog 41 #[v] w fun e w' => e = .returned (.int .i64 T) ∧ Gr w w') :
    Calls Tryz.prog 13 #[v] w fun e w' => e = .returned (.tuple #[.int .i64 0, .int .i64 T]) ∧ Gr w w' := by
  have q2 : (T != 0) = true := bne_iff_ne.2 h
  replace HC := Lib.hid HC
  clear h
  go_enter Tryz.func13, Tryz.ntmps13
  go_wp2_with fail
  refine HC.out.mono ?_
  rintro e W1 ⟨rfl, g⟩
  go_wp2_with fail
  exact bodyPost_ret (v := .tuple #[.int .i64 0, .int .i64 T]) (by simp [results, Tryz.results13, go_sem]) rfl ⟨rfl, g⟩
set_option maxHeartbeats 1000000 in
set_option maxRecDepth 100000 in
theorem apart_bad (T : Int) (v : Value) (w : World) (h : T ≠ 0) (HC : Calls Tryz.prog 41 #[v] w fun e w' => e = .returned (.int .i64 T) ∧ Gr w w') :
    Calls Tryz.prog 14 #[v] w fun e w' => e = .returned (.tuple #[.slice none 0 0, .int .i64 T]) ∧ Gr w w' := by
  have q2 : (T != 0) = true := bne_iff_ne.2 h
  replace HC := Lib.hid HC
  clear h
  go_enter Tryz.func14, Tryz.ntmps14
  go_wp2_with fail
  go_step3
  go_wp2_with fail
  refine HC.out.mono ?_
  rintro e W1 ⟨rfl, g⟩
  go_wp2_with fail
  rw [Exit.noGoto_ret]
  exact bodyPost_ret (v := .tuple #[.slice none 0 0, .int .i64 T]) (by simp [results, Tryz.results14, go_sem]) rfl ⟨rfl, g⟩
set_option maxHeartbeats 1000000 in
set_option maxRecDepth 100000 in
theorem nb_bad2 (T : Int) (v : Value) (n : Nat) (p : Option Addr) (cp : Nat) (o : Value) (w : World) (hv : v = .slice p n cp) (h : T ≠ 0) (HC : Calls Tryz.prog 41 #[v] w fun e w' => e = .returned (.int .i64 0) ∧ Gr w w')
    (HO : ∀ W, Gr w W → Calls Tryz.prog 42 #[.int .i64 (n : Int), o] W fun e w' => e = .returned (.int .i64 T) ∧ Gr W w') :
    Calls Tryz.prog 12 #[v, o] w fun e w' => e = .returned (.tuple #[.int .i64 0, .int .i64 T]) ∧ Gr w w' := by
  subst hv
  have q2 : (T != 0) = true := bne_iff_ne.2 h
  replace HC := Lib.hid HC
  replace HO := Lib.hid HO
  clear h
  go_enter Tryz.func12, Tryz.ntmps12
  go_wp2_with fail
  refine HC.out.mono ?_
  rintro e W1 ⟨rfl, g⟩
  go_wp2_with fail
  refine (HO.out _ g).mono ?_
  rintro e W2 ⟨rfl, hg⟩
  go_wp2_with fail
  exact bodyPost_ret (v := .tuple #[.int .i64 0, .int .i64 T]) (by simp [results, Tryz.results12, go_sem]) rfl ⟨rfl, g.trans hg⟩
set_option maxRecDepth 100000 in
theorem int6_ok (x : Int) (w : World) : Calls Tryz.prog 16 #[.int .i64 x, .int .i64 0, .int .i64 0, .int .i64 x] w fun e w' => e = .returned (.bool true) ∧ w = w' := by
  have h : (x == x) = true := by simp
  go_enter Tryz.func16, Tryz.ntmps16
  go_wp2_with fail
  go_ret
  exact ⟨by simp, rfl⟩
set_option maxRecDepth 100000 in
theorem int6_err (z y : Int) (h : z ≠ 0) (w : World) : Calls Tryz.prog 16 #[.int .i64 0, .int .i64 z, .int .i64 z, .int .i64 y] w fun e w' => e = .returned (.bool true) ∧ w = w' := by
  have h1 : (z != 0) = true := bne_iff_ne.2 h
  have h2 : (z == z) = true := by simp
  go_enter Tryz.func16, Tryz.ntmps16
  go_wp2_with fail
  go_ret
  exact ⟨by simp, rfl⟩
end Go.Proofs.YtcnpmebihdonoaaGreatDoor
namespace Go.Proofs.YtcnpmebihdonoaaGreatDoor
open Go.RowKit Go.Lib
set_option linter.unusedSimpArgs false
set_option linter.unusedVariables false
/-- -1, 0 or 1 -/
def cmpYT (a b : Int) : Int := if decide (a < b) then -1 else if decide (b < a) then 1 else 0
theorem isNaNY_cT (x : Int) (w : World) :
    Calls Tryz.prog 85 #[.int .i64 x] w fun e w' => e = .returned (.bool false) ∧ w = w' := by
  go_enter Tryz.func85, Tryz.ntmps85
  go_wp2_with fail
  go_ret
  exact ⟨by simp, rfl⟩
theorem cmpYInt_cT (x y : Int) (w : World) :
    Calls Tryz.prog 46 #[.int .i64 x, .int .i64 y] w fun e w' => e = .returned (.int .i64 (cmpYT x y)) ∧ w = w' := by
  have HX := Lib.hid (fun W => isNaNY_cT x W)
  have HY := Lib.hid (fun W => isNaNY_cT y W)
  have HE : Hid (cmpYT x y = if decide (x < y) then -1 else if decide (y < x) then 1 else 0) := rfl
  cases h1 : decide (x < y) <;> cases h2 : decide (y < x)
  all_goals
    rw [h1, h2] at HE
    go_enter Tryz.func46, Tryz.ntmps46
    go_wp2_with fail
    repeat (first
      | (with_reducible refine (HX.out _).mono ?_; rintro e w4 ⟨rfl, rfl⟩; go_wp2_with fail)
      | (with_reducible refine (HY.out _).mono ?_; rintro e w4 ⟨rfl, rfl⟩; go_wp2_with fail))
    go_ret
    exact ⟨by rw [HE.out]; rfl, rfl⟩
theorem cmpY_ltT (a b : Int) : cmpYT a b < 0 ↔ a < b := by
  unfold cmpYT
  by_cases h1 : a < b
  · simp [h1]
  · by_cases h2 : b < a <;> simp [h1, h2]
/-- a slice as a value: where it begins, its length, its capacity -/
abbrev SlT := Option Addr × Nat × Nat
def cmpKT (key : SlT → Int) (a b : SlT) : Int := cmpYT (key a) (key b)
theorem lt_cmpKT (key : SlT → Int) (a b : SlT) : ltOf (cmpKT key) a b = decide (key a < key b) := by
  unfold ltOf
  exact decide_eq_decide.2 (cmpY_ltT _ _)
theorem swo_cmpKT (key : SlT → Int) : Go.Sort.SWO (ltOf (cmpKT key)) where
  irrefl x := by rw [lt_cmpKT]; simp
  trans x y z h1 h2 := by rw [lt_cmpKT, decide_eq_true_eq] at *; omega
  ntrans x y z h1 h2 := by rw [lt_cmpKT, decide_eq_false_iff_not] at *; omega
def encNT (s : SlT) : Value := .slice s.1 s.2.1 s.2.2
open Go.Sort Go.Shelf in
/-- what the library's insertion sort does -/
structure InsNOKT : Prop where
  some : ∀ (m : SlT → Int) (cb : Array Value) (blk off cap a b : Nat) (d0 d : Array SlT) (w0 w : World), CmpLays1 Tryz.prog 45 cb encNT (cmpKT m) blk off d0.size w0 → Row1 encNT w0 blk off d0 → d0.size = d.size → SW encNT w0 blk off d w → a ≤ b → b ≤ d.size → d.size < 4611686018427387904 →
    Calls Tryz.prog 125 #[.slice (some ⟨blk, off, none⟩) d.size cap, .int .i64 a, .int .i64 b, .func (.func 45) #[] cb] w fun e w' =>
      e = .returned (.tuple #[]) ∧ SW encNT w0 blk off (Sort.insertionSort (ltOf (cmpKT m)) d a b) w'
open Go.Sort Go.Shelf in
set_option maxHeartbeats 1000000 in
set_option maxRecDepth 100000 in
theorem stableI_cT (I : InsNOKT) (m : SlT → Int) (cb : Array Value) (blk off cap : Nat) (d : Array SlT) (w0 w : World) (hl : CmpLays1 Tryz.prog 45 cb encNT (cmpKT m) blk off d.size w0) (hR : Row1 encNT w0 blk off d) (hS : SW encNT w0 blk off d w) (hn : d.size < 20) :
    Calls Tryz.prog 84 #[.slice (some ⟨blk, off, none⟩) d.size cap, .int .i64 d.size, .func (.func 45) #[] cb] w fun e w' =>
      e = .returned (.tuple #[]) ∧ SW encNT w0 blk off (Sort.insertionSort (ltOf (cmpKT m)) d 0 d.size) w' := by
  have HI := Lib.hid (I.some m cb blk off cap 0 d.size d d w0 w hl hR rfl hS (by omega) (by omega) (by omega))
  clear hl hR hS I
  generalize Sort.insertionSort (ltOf (cmpKT m)) d 0 d.size = dd at *
  generalize hnn : d.size = n at *
  have h1 : ¬ ((20 : Int) ≤ (n : Int)) := by omega
  have h2 : ¬ ((20 : Int) < (n : Int)) := by omega
  have h1' : (decide ((20 : Int) ≤ (n : Int))) = false := decide_eq_false h1
  have h2' : (decide ((20 : Int) < (n : Int))) = false := decide_eq_false h2
  clear hnn
  go_enter Tryz.func84, Tryz.ntmps84
  go_wp2_with fail
  go_loopg [7, 8] 0 (fun gk s7 s8 wr => gk = 0 ∧ s7 = .int .i64 0 ∧ s8 = .int .i64 20 ∧ wr = w)
  case atStart => exact ⟨rfl, rfl, rfl, rfl⟩
  case round =>
    obtain ⟨rfl, rfl, rfl, rfl⟩ := hrel
    rw [Int.natCast_zero] at HI
    go_wp2_with (refine HI.out.mono ?_; rintro e w4 ⟨rfl, HW⟩)
    go_loopg [6, 7, 8, 9] 0 (fun gk s6 s7 s8 s9 wr => gk = 0 ∧ s6 = .int .i64 20 ∧ s7 = .int .i64 0 ∧ wr = w4)
    case atStart => exact ⟨rfl, rfl, rfl, rfl⟩
    case round =>
      obtain ⟨rfl, rfl, rfl, rfl⟩ := hrel
      go_wp2_with fail
      go_end0
      exact ⟨rfl, HW⟩
open Go.Sort Go.Shelf in
set_option maxHeartbeats 1000000 in
set_option maxRecDepth 100000 in
theorem sortII_cT (I : InsNOKT) (m : SlT → Int) (cb : Array Value) (blk off cap : Nat) (d : Array SlT) (w0 w : World) (hl : CmpLays1 Tryz.prog 45 cb encNT (cmpKT m) blk off d.size w0) (hR : Row1 encNT w0 blk off d) (hS : SW encNT w0 blk off d w) (hn : d.size < 20) :
    Calls Tryz.prog 44 #[.slice (some ⟨blk, off, none⟩) d.size cap, .func (.func 45) #[] cb] w fun e w' =>
      e = .returned (.tuple #[]) ∧ SW encNT w0 blk off (Sort.insertionSort (ltOf (cmpKT m)) d 0 d.size) w' := by
  have HI := Lib.hid (stableI_cT I m cb blk off cap d w0 w hl hR hS hn)
  clear hl hR hS I hn
  generalize Sort.insertionSort (ltOf (cmpKT m)) d 0 d.size = dd at *
  generalize d.size = n at *
  go_enter Tryz.func44, Tryz.ntmps44
  go_wp2_with (refine HI.out.mono ?_; rintro e w4 ⟨rfl, HW⟩)
  go_end0
  exact ⟨rfl, HW⟩
theorem insI_0T (p : Option Addr) (cap : Nat) (f : Value) (w : World) :
    Calls Tryz.prog 125 #[.slice p 0 cap, .int .i64 0, .int .i64 0, f] w fun e w' => e = .returned (.tuple #[]) ∧ w' = w := by
  go_enter Tryz.func125, Tryz.ntmps125
  go_wp2_with fail
  refine wp_loop_rounds 2 ?_
  rw [rounds_succ]
  go_wp2_with fail
  go_end0
  exact ⟨rfl, rfl⟩
theorem stableI_0T (p : Option Addr) (cap : Nat) (f : Value) (w : World) :
    Calls Tryz.prog 84 #[.slice p 0 cap, .int .i64 0, f] w fun e w' => e = .returned (.tuple #[]) ∧ w' = w := by
  have HI := Lib.hid (insI_0T p cap f)
  go_enter Tryz.func84, Tryz.ntmps84
  go_wp2_with fail
  refine wp_loop_rounds 2 ?_
  rw [rounds_succ]
  go_wp2_with (refine (HI.out _).mono ?_; rintro e w4 ⟨rfl, rfl⟩)
  refine wp_loop_rounds 2 ?_
  rw [rounds_succ]
  go_wp2_with fail
  go_end0
  exact ⟨rfl, rfl⟩
theorem sortII_0T (p : Option Addr) (cap : Nat) (f : Value) (w : World) :
    Calls Tryz.prog 44 #[.slice p 0 cap, f] w fun e w' => e = .returned (.tuple #[]) ∧ w' = w := by
  have HI := Lib.hid (stableI_0T p cap f)
  go_enter Tryz.func44, Tryz.ntmps44
  go_wp2_with (refine (HI.out _).mono ?_; rintro e w4 ⟨rfl, rfl⟩)
  go_end0
  exact ⟨rfl, rfl⟩
end Go.Proofs.YtcnpmebihdonoaaGreatDoor
namespace Go.Proofs.YtcnpmebihdonoaaGreatDoor
open Go.RowKit Go.Lib
set_option linter.unusedSimpArgs false
set_option linter.unusedVariables false
theorem drop_getT {α : Type} {X r : List α} {x : α} {i : Nat} (h : X.drop i = x :: r) : X[i]? = some x := by
  have := congrArg (fun l => l[0]?) h
  simpa using this
section
open Go.Sort Go.Shelf
theorem arr_oneT {α : Type} [Inhabited α] (P Q : List α) (x : α) : (P ++ x :: Q).toArray[P.length]! = x := by
  rw [getElem!_pos _ _ (by simp)]
  simp
theorem arr_twoT {α : Type} [Inhabited α] (P M Q : List α) (x y : α) : (P ++ x :: (M ++ y :: Q)).toArray[P.length + 1 + M.length]! = y := by
  have := arr_oneT (P ++ x :: M) Q y
  rw [show (P ++ x :: M).length = P.length + 1 + M.length by simp; omega] at this
  simpa using this
structure Swp2T {α : Type} [Inhabited α] (enc : α → Value) (w0 : World) (blk off i j : Nat) (x y : α) (d : Array α) (W : World) : Prop where
  c1 : W.cell? ⟨blk, off + i, none⟩ = some (enc x)
  c2 : W.cell? ⟨blk, off + j, none⟩ = some (enc y)
  f1 : W.frozen? ⟨blk, off + i, none⟩ = false
  f2 : W.frozen? ⟨blk, off + j, none⟩ = false
  c3 : ∃ u, (W.setCell ⟨blk, off + i, none⟩ (enc y)).cell? ⟨blk, off + j, none⟩ = some u
  c4 : ∃ u, (W.setCell ⟨blk, off + j, none⟩ (enc x)).cell? ⟨blk, off + i, none⟩ = some u
  s1 : SW enc w0 blk off d ((W.setCell ⟨blk, off + i, none⟩ (enc y)).setCell ⟨blk, off + j, none⟩ (enc x)).drew
  s2 : SW enc w0 blk off d ((W.setCell ⟨blk, off + j, none⟩ (enc x)).setCell ⟨blk, off + i, none⟩ (enc y)).drew
theorem row_swapT {α : Type} [Inhabited α] {enc : α → Value} {w0 W : World} {blk off : Nat} {d0 : Array α} {P M Q : List α} {x y : α} (S : SW enc w0 blk off (P ++ x :: (M ++ y :: Q)).toArray W) (R : Row1 enc w0 blk off d0) (hs : d0.size = (P ++ x :: (M ++ y :: Q)).length) {i j : Nat} (hi : i = P.length) (hj : j = P.length + 1 + M.length) :
    Swp2T enc w0 blk off i j x y (P ++ y :: (M ++ x :: Q)).toArray W := by
  have hsz : (P ++ x :: (M ++ y :: Q)).toArray.size = d0.size := by rw [hs]; simp
  have hl : (P ++ x :: (M ++ y :: Q)).length = P.length + 1 + M.length + 1 + Q.length := by simp; omega
  have i1 : i < (P ++ x :: (M ++ y :: Q)).toArray.size := by rw [hsz, hs, hl]; omega
  have j1 : j < (P ++ x :: (M ++ y :: Q)).toArray.size := by rw [hsz, hs, hl]; omega
  have ex : (P ++ x :: (M ++ y :: Q)).toArray[i]! = x := by rw [hi]; exact arr_oneT P _ x
  have ey : (P ++ x :: (M ++ y :: Q)).toArray[j]! = y := by rw [hj]; exact arr_twoT P M Q x y
  have a1 := S.c1 R hsz i i1
  have a2 := S.c1 R hsz j j1
  have a3 := S.swapped R i j i1 j1
  have a4 := S.swapped R j i j1 i1
  have a5 := S.c2 R hsz i j i1 j1 (enc y)
  have a6 := S.c2 R hsz j i j1 i1 (enc x)
  rw [swp_comm' _ i j i1 j1] at a4
  rw [ex, ey, swp_list P M Q x y i j hi hj] at a3 a4
  rw [ex] at a1
  rw [ey] at a2
  exact ⟨a1, a2, S.f1 R hsz i i1, S.f1 R hsz j j1, a5, a6, a3, a4⟩
end
open Go.Sort Go.Shelf in
set_option maxHeartbeats 4000000 in
set_option maxRecDepth 100000 in
theorem swapR_cT {w0 : World} {blk off : Nat} {d0 : Array SlT} (R : Row1 encNT w0 blk off d0) (L X M Y Q : List SlT) (n a b cap N : Nat) (f : Value) (w : World) (hX : X.length = n) (hY : Y.length = n) (ha : a = L.length) (hb : b = L.length + n + M.length)
    (hN : d0.size = N) (hs : N = L.length + n + M.length + n + Q.length) (hsz : N < 4611686018427387904) (S : SW encNT w0 blk off (L ++ (X ++ (M ++ (Y ++ Q)))).toArray w) :
    Calls Tryz.prog 153 #[.slice (some ⟨blk, off, none⟩) N cap, .int .i64 (a : Int), .int .i64 (b : Int), .int .i64 (n : Int), f] w fun e w' => e = .returned (.tuple #[]) ∧ SW encNT w0 blk off (L ++ (Y ++ (M ++ (X ++ Q)))).toArray w' := by
  have hcl0 := R.hO.cells
  simp only [Value.cells] at hcl0
  have hst := R.hO.store Tryz.prog
  have S0 := Lib.hid S
  have HX := Lib.hid hX
  have HY := Lib.hid hY
  have HS := Lib.hid hs
  have HA := Lib.hid ha
  have HB := Lib.hid hb
  have hbn : b + n ≤ N := by omega
  have han : a + n ≤ b := by omega
  clear S hX hY hs hb ha
  go_enter Tryz.func153, Tryz.ntmps153
  go_wp2_with fail
  go_loopg [10] n (fun gk s10 wr => ∃ i : Nat, s10 = .int .i64 i ∧ gk + i = n ∧ Hid (SW encNT w0 blk off (L ++ (Y.take i ++ (X.drop i ++ (M ++ (X.take i ++ (Y.drop i ++ Q)))))).toArray wr))
  case atStart => exact ⟨0, rfl, by omega, by simpa [Hid] using S0.out⟩
  case round =>
    clear S0
    obtain ⟨i, rfl, hi, HSW⟩ := hrel
    by_cases hlt : i < n
    · have hi2 : (i : Int) < n := by omega
      obtain ⟨x, hx⟩ : ∃ x, X.drop i = x :: X.drop (i + 1) := ⟨X[i]'(by have := HX.out; omega), List.drop_eq_getElem_cons (by have := HX.out; omega)⟩
      obtain ⟨y, hy⟩ : ∃ y, Y.drop i = y :: Y.drop (i + 1) := ⟨Y[i]'(by have := HY.out; omega), List.drop_eq_getElem_cons (by have := HY.out; omega)⟩
      have hxt : X.take (i + 1) = X.take i ++ [x] := by
        rw [List.take_add_one]
        rw [drop_getT hx]; rfl
      have hyt : Y.take (i + 1) = Y.take i ++ [y] := by
        rw [List.take_add_one]
        rw [drop_getT hy]; rfl
      have hS := HSW.out
      rw [hx, hy, show L ++ (Y.take i ++ (x :: X.drop (i + 1) ++ (M ++ (X.take i ++ (y :: Y.drop (i + 1) ++ Q))))) = (L ++ Y.take i) ++ x :: ((X.drop (i + 1) ++ (M ++ X.take i)) ++ y :: (Y.drop (i + 1) ++ Q)) by simp] at hS
      have hsw := row_swapT hS R (by rw [hN]; have := HX.out; have := HY.out; have := HS.out; simp; omega) (i := a + i) (j := b + i) (by have := HY.out; have := HA.out; simp; omega) (by have := HX.out; have := HY.out; have := HB.out; simp; omega)
      rw [show (L ++ Y.take i) ++ y :: ((X.drop (i + 1) ++ (M ++ X.take i)) ++ x :: (Y.drop (i + 1) ++ Q)) = L ++ (Y.take (i + 1) ++ (X.drop (i + 1) ++ (M ++ (X.take (i + 1) ++ (Y.drop (i + 1) ++ Q))))) by rw [hxt, hyt]; simp] at hsw
      obtain ⟨q1, q2, q3, q4, ⟨u, q5⟩, _, q6, _⟩ := hsw
      obtain ⟨p, hp⟩ : ∃ p, p = a + i := ⟨_, rfl⟩
      obtain ⟨q, hq⟩ : ∃ q, q = b + i := ⟨_, rfl⟩
      rw [← hp] at q1 q3 q5 q6
      rw [← hq] at q2 q4 q5 q6
      have w1 : IntKind.i64.wrap ((a : Int) + i) = (a : Int) + i := by rw [IntKind.wrap_i64]; omega
      have w2 : IntKind.i64.wrap ((b : Int) + i) = (b : Int) + i := by rw [IntKind.wrap_i64]; omega
      have t1 : ((a : Int) + i).toNat = p := by omega
      have t2 : ((b : Int) + i).toNat = q := by omega
      have r1 : (0 : Int) ≤ (a : Int) + i := by omega
      have r2 : (0 : Int) ≤ (b : Int) + i := by omega
      have r3 : (a : Int) + i < N := by omega
      have r4 : (b : Int) + i < N := by omega
      have H6 := Lib.hid q6
      clear hx hy hxt hyt hS q6 HSW hp hq
      have mixed : Tryz.prog.follows .mixedOrders = true := by kernel_rfl
      go_wp2_with fail
      go_big_region_o
      go_wp2_with fail

      go_roundg (gk - 1)
      case measure => omega
      case rel => exact ⟨i + 1, by go_num, by omega, H6⟩
    · have hin : i = n := by omega
      have hnl : ¬ (i : Int) < n := by omega
      have hS := HSW.out
      have x1 : X.take n = X := List.take_of_length_le (by have := HX.out; omega)
      have x2 : Y.take n = Y := List.take_of_length_le (by have := HY.out; omega)
      have x3 : X.drop n = [] := List.drop_eq_nil_of_le (by have := HX.out; omega)
      have x4 : Y.drop n = [] := List.drop_eq_nil_of_le (by have := HY.out; omega)
      rw [hin, x1, x2, x3, x4, List.nil_append, List.nil_append] at hS
      have H7 := Lib.hid hS
      clear hS HSW hin
      go_wp2_with fail
      go_end0
      exact ⟨rfl, H7.out⟩
end Go.Proofs.YtcnpmebihdonoaaGreatDoor
