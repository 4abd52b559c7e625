/- The library's stable sort: merging two parts of a row of names, whole. -/
import Derived.Test.YtcnpmebihdonoaaGreatDoorGSzC
namespace Go.Proofs.YtcnpmebihdonoaaGreatDoor
open Go.RowKit Go.Lib
set_option linter.unusedSimpArgs false
set_option linter.unusedVariables false
variable {Mx : Nat}
/-- where the two parts are cut: what stays ahead, what goes behind -/
theorem sym_cut {key : Fin (Mx + 1) → Int} {A B : List (Fin (Mx + 1))} (sA : Asc (ltK key) A) (sB : Asc (ltK key) B) {a m b md nn p s lo0 hi0 : Nat} (hlA : m = a + A.length) (hlB : b = m + B.length) (hnn : nn = md + m) (hp : p + 1 = nn)
    (hs1 : lo0 ≤ s) (hs2 : s ≤ hi0) (hal : a ≤ lo0) (hhm : hi0 ≤ m) (hhd : hi0 ≤ md) (hlo : lo0 = a ∨ lo0 + b = nn) (hhi : hi0 = m ∨ hi0 = md) (hlb : nn ≤ lo0 + b)
    (LO : s = lo0 ∨ ∃ x y, A[s - 1 - a]? = some x ∧ B[p - (s - 1) - m]? = some y ∧ key x ≤ key y) (HI : s = hi0 ∨ ∃ x y, A[s - a]? = some x ∧ B[p - s - m]? = some y ∧ key y < key x) :
    (∀ x ∈ A.take (s - a), ∀ y ∈ B.drop (nn - s - m), ltK key y x = false) ∧ ∀ x ∈ A.drop (s - a), ∀ y ∈ B.take (nn - s - m), ltK key y x = true := by
  refine ⟨fun x hx y hy => ?_, fun x hx y hy => ?_⟩
  · rcases LO with e | ⟨x0, y0, h1, h2, h3⟩
    · rcases hlo with e2 | e2
      · rw [show s - a = 0 by omega, List.take_zero] at hx; cases hx
      · rw [List.drop_eq_nil_of_le (by omega)] at hy; cases hy
    · by_cases hsa : s = a
      · rw [show s - a = 0 by omega, List.take_zero] at hx; cases hx
      · have q1 := (low_step sA h1).1 x (by rw [show s - 1 - a + 1 = s - a by omega]; exact hx)
        have q2 := (low_step sB h2).2 y (by rw [show p - (s - 1) - m = nn - s - m by omega]; exact hy)
        exact decide_eq_false (by omega)
  · rcases HI with e | ⟨x0, y0, h1, h2, h3⟩
    · rcases hhi with e2 | e2
      · rw [List.drop_eq_nil_of_le (by omega)] at hx; cases hx
      · rw [show nn - s - m = 0 by omega, List.take_zero] at hy; cases hy
    · by_cases hsd : s = md
      · rw [show nn - s - m = 0 by omega, List.take_zero] at hy; cases hy
      · have q1 := (low_step sA h1).2 x hx
        have q2 := (low_step sB h2).1 y (by rw [show p - s - m + 1 = nn - s - m by omega]; exact hy)
        exact decide_eq_true (by omega)
def CutLo (key : Fin (Mx + 1) → Int) (A B : List (Fin (Mx + 1))) (a m p lo0 s : Nat) : Prop := s = lo0 ∨ ∃ x y, A[s - 1 - a]? = some x ∧ B[p - (s - 1) - m]? = some y ∧ key x ≤ key y
def CutHi (key : Fin (Mx + 1) → Int) (A B : List (Fin (Mx + 1))) (a m p hi0 r : Nat) : Prop := r = hi0 ∨ ∃ x y, A[r - a]? = some x ∧ B[p - r - m]? = some y ∧ key y < key x
/-- what the three calls behind the cut do, in rows -/
structure SymP (w0 : World) (blk off N cap : Nat) (f : Value) (a m b md s e : Nat) (D0 D1 D2 D3 : List (Fin (Mx + 1))) : Prop where
  rot : s < m → s < md → ∀ W, Go.Proofs.SW encN w0 blk off D0.toArray W → Calls Tryz.prog 154 #[.slice (some ⟨blk, off, none⟩) N cap, .int .i64 (s : Int), .int .i64 (m : Int), .int .i64 (e : Int), f] W fun r w' => r = .returned (.tuple #[]) ∧ Go.Proofs.SW encN w0 blk off D1.toArray w'
  one : a < s → s < md → ∀ W, Go.Proofs.SW encN w0 blk off D1.toArray W → Calls Tryz.prog 146 #[.slice (some ⟨blk, off, none⟩) N cap, .int .i64 (a : Int), .int .i64 (s : Int), .int .i64 (md : Int), f] W fun r w' => r = .returned (.tuple #[]) ∧ Go.Proofs.SW encN w0 blk off D2.toArray w'
  two : s < m → e < b → ∀ W, Go.Proofs.SW encN w0 blk off D2.toArray W → Calls Tryz.prog 146 #[.slice (some ⟨blk, off, none⟩) N cap, .int .i64 (md : Int), .int .i64 (e : Int), .int .i64 (b : Int), f] W fun r w' => r = .returned (.tuple #[]) ∧ Go.Proofs.SW encN w0 blk off D3.toArray w'
  e01 : ¬ (s < m ∧ s < md) → D0 = D1
  e12 : ¬ (a < s ∧ s < md) → D1 = D2
  e23 : ¬ (s < m ∧ e < b) → D2 = D3
open Go.Sort Go.Shelf in
theorem sym_parts {key : Fin (Mx + 1) → Int} {w0 : World} {blk off : Nat} {d0 : Array (Fin (Mx + 1))} (R : Row1 encN w0 blk off d0) (N : Nat) (hN : d0.size = N) (hsz : N < 4611686018427387904) (f : Value) (cap : Nat) (L A B Q : List (Fin (Mx + 1))) (a m b md nn s e : Nat)
    (ha : a = L.length) (hlA : m = a + A.length) (hlB : b = m + B.length) (hs : N = L.length + A.length + B.length + Q.length) (sA : Asc (ltK key) A) (sB : Asc (ltK key) B) (h2 : 1 < A.length + B.length)
    (hmd : md = (a + b) / 2) (hnn : nn = md + m) (he : e = nn - s) (h3 : a ≤ s) (h4 : s ≤ m) (h5 : s ≤ md) (h6 : e ≤ b)
    (ih : ∀ (L A B Q : List (Fin (Mx + 1))) (a' m' b' : Nat) (W : World), A.length + B.length < b - a → 0 < A.length → 0 < B.length → a' = L.length → m' = L.length + A.length → b' = L.length + A.length + B.length → N = L.length + A.length + B.length + Q.length → Asc (ltK key) A → Asc (ltK key) B → SW encN w0 blk off (L ++ (A ++ (B ++ Q))).toArray W →
      Calls Tryz.prog 146 #[.slice (some ⟨blk, off, none⟩) N cap, .int .i64 (a' : Int), .int .i64 (m' : Int), .int .i64 (b' : Int), f] W fun r w' => r = .returned (.tuple #[]) ∧ SW encN w0 blk off (L ++ (mrg (ltK key) A B ++ Q)).toArray w')
    (K1 : ∀ x ∈ A.take (s - a), ∀ y ∈ B.drop (e - m), ltK key y x = false) (K2 : ∀ x ∈ A.drop (s - a), ∀ y ∈ B.take (e - m), ltK key y x = true) :
    ∃ D1 D2, SymP w0 blk off N cap f a m b md s e (L ++ (A ++ (B ++ Q))) D1 D2 (L ++ (mrg (ltK key) A B ++ Q)) := by
  have eA := List.take_append_drop (s - a) A
  have eB := List.take_append_drop (e - m) B
  have lA1 : (A.take (s - a)).length = s - a := by rw [List.length_take]; omega
  have lA2 : (A.drop (s - a)).length = m - s := by rw [List.length_drop]; omega
  have lB1 : (B.take (e - m)).length = md - s := by rw [List.length_take]; omega
  have lB2 : (B.drop (e - m)).length = b - e := by rw [List.length_drop]; omega
  have hmg : mrg (ltK key) A B = mrg (ltK key) (A.take (s - a)) (B.take (e - m)) ++ mrg (ltK key) (A.drop (s - a)) (B.drop (e - m)) := by
    conv => lhs; rw [← eA, ← eB]
    exact mrg_app _ _ _ _ _ _ rfl K1 K2
  have sA' : Asc (ltK key) (A.take (s - a) ++ A.drop (s - a)) := by rw [eA]; exact sA
  have sB' : Asc (ltK key) (B.take (e - m) ++ B.drop (e - m)) := by rw [eB]; exact sB
  obtain ⟨sA1, sA2⟩ := sA'.app
  obtain ⟨sB1, sB2⟩ := sB'.app
  have hD0 : L ++ (A ++ (B ++ Q)) = (L ++ A.take (s - a)) ++ (A.drop (s - a) ++ (B.take (e - m) ++ (B.drop (e - m) ++ Q))) := by
    rw [List.append_assoc L, ← List.append_assoc (A.take (s - a)), eA, ← List.append_assoc (B.take (e - m)), eB]
  rw [hD0, hmg]
  generalize A.take (s - a) = A1 at *
  generalize A.drop (s - a) = A2 at *
  generalize B.take (e - m) = B1 at *
  generalize B.drop (e - m) = B2 at *
  have lM1 : (mrg (ltK key) A1 B1).length = md - a := by rw [mrg_len _ _ A1 B1 rfl]; omega
  have nil_of : ∀ {l : List (Fin (Mx + 1))}, l.length = 0 → l = [] := fun h => List.eq_nil_of_length_eq_zero h
  refine ⟨L ++ (A1 ++ (B1 ++ (A2 ++ (B2 ++ Q)))), L ++ (mrg (ltK key) A1 B1 ++ (A2 ++ (B2 ++ Q))), ?_, ?_, ?_, ?_, ?_, ?_⟩
  · intro q1 q2 W hW
    have := rotate_c R (L ++ A1) A2 B1 (B2 ++ Q) s m e cap N f W (by rw [List.length_append]; omega) (by rw [List.length_append]; omega) (by rw [List.length_append]; omega) (by omega) (by omega) hN (by rw [List.length_append, List.length_append]; omega) hsz hW
    rw [List.append_assoc] at this
    exact this
  · intro q1 q2 W hW
    exact ih L A1 B1 (A2 ++ (B2 ++ Q)) a s md W (by omega) (by omega) (by omega) ha (by omega) (by omega) (by rw [List.length_append, List.length_append]; omega) sA1 sB1 hW
  · intro q1 q2 W hW
    have := ih (L ++ mrg (ltK key) A1 B1) A2 B2 Q md e b W (by omega) (by omega) (by omega) (by rw [List.length_append]; omega) (by rw [List.length_append]; omega) (by rw [List.length_append]; omega) (by rw [List.length_append]; omega) sA2 sB2 (by rw [List.append_assoc]; exact hW)
    rw [List.append_assoc, ← List.append_assoc (mrg (ltK key) A1 B1)] at this
    exact this
  · intro h
    by_cases q : s < m
    · rw [nil_of (l := B1) (by omega)]; simp
    · rw [nil_of (l := A2) (by omega)]; simp
  · intro h
    by_cases q : a < s
    · rw [nil_of (l := B1) (by omega), mrg_nil]; simp
    · rw [nil_of (l := A1) (by omega), nil_mrg]; simp
  · intro h
    by_cases q : s < m
    · rw [nil_of (l := B2) (by omega), mrg_nil]; simp
    · rw [nil_of (l := A2) (by omega), nil_mrg]; simp
open Go.Sort Go.Shelf in
set_option maxHeartbeats 16000000 in
set_option maxRecDepth 100000 in
theorem symMany_c (mm : Fin (Mx + 1) → Int) (cb : Array Value) {w0 : World} {blk off : Nat} {d0 : Array (Fin (Mx + 1))} (R : Row1 encN w0 blk off d0) (N : Nat) (hN : d0.size = N) (hsz : N < 4611686018427387904) (hC : CmpLays1 Tryz.prog 88 cb encN (cmpK mm) blk off N w0)
    (L A B Q : List (Fin (Mx + 1))) (a m b cap : Nat) (w : World) (ha : a = L.length) (hm : m = L.length + A.length) (hb : b = L.length + A.length + B.length) (hA2 : 1 < A.length) (hB2 : 1 < B.length) (hs : N = L.length + A.length + B.length + Q.length) (sA : Asc (ltK mm) A) (sB : Asc (ltK mm) B)
    (ih : ∀ (L A B Q : List (Fin (Mx + 1))) (a' m' b' : Nat) (W : World), A.length + B.length < b - a → 0 < A.length → 0 < B.length → a' = L.length → m' = L.length + A.length → b' = L.length + A.length + B.length → N = L.length + A.length + B.length + Q.length → Asc (ltK mm) A → Asc (ltK mm) B → SW encN w0 blk off (L ++ (A ++ (B ++ Q))).toArray W →
      Calls Tryz.prog 146 #[.slice (some ⟨blk, off, none⟩) N cap, .int .i64 (a' : Int), .int .i64 (m' : Int), .int .i64 (b' : Int), .func (.func 88) #[] cb] W fun r w' => r = .returned (.tuple #[]) ∧ SW encN w0 blk off (L ++ (mrg (ltK mm) A B ++ Q)).toArray w')
    (S : SW encN w0 blk off (L ++ (A ++ (B ++ Q))).toArray w) :
    Calls Tryz.prog 146 #[.slice (some ⟨blk, off, none⟩) N cap, .int .i64 (a : Int), .int .i64 (m : Int), .int .i64 (b : Int), .func (.func 88) #[] cb] w fun e w' => e = .returned (.tuple #[]) ∧ SW encN w0 blk off (L ++ (mrg (ltK mm) A B ++ Q)).toArray w' := by
  have mixed : Tryz.prog.follows .mixedOrders = true := by kernel_rfl
  have eg : ∀ (args : Array Value) (w : World), (callFunc 88 args).run Tryz.prog w = .ok (.enter 88 args) w := enters_of Tryz.func88 (by kernel_rfl) rfl
  have hcl0 := R.hO.cells
  simp only [Value.cells] at hcl0
  have hst := R.hO.store Tryz.prog
  have HSW0 := Lib.hid S
  have HGA := Lib.hid (fun t z (h : A[t]? = some z) => get_A (L := L) (A := A) (T := B ++ Q) (a := a) ha h)
  have HGB := Lib.hid (fun t y (h : B[t]? = some y) => get_B (L := L) (A := A) (B := B) (T := Q) (m := m) hm h)
  have HL := Lib.hid (show (L ++ (A ++ (B ++ Q))).length = N by simp; omega)
  have HN := Lib.hid hN
  have HC := Lib.hid hC
  obtain ⟨la, hlaE⟩ : ∃ q, q = A.length := ⟨_, rfl⟩
  obtain ⟨lb, hlbE⟩ : ∃ q, q = B.length := ⟨_, rfl⟩
  obtain ⟨md, hmd⟩ : ∃ q, q = (a + b) / 2 := ⟨_, rfl⟩
  obtain ⟨nn, hnn⟩ : ∃ q, q = md + m := ⟨_, rfl⟩
  obtain ⟨p, hp⟩ : ∃ q, q = nn - 1 := ⟨_, rfl⟩
  have w0' : IntKind.i64.wrap ((m : Int) - a) = (la : Int) := by rw [IntKind.wrap_i64]; omega
  have z0 : (m : Int) - a = (la : Int) := by omega
  have z0b : ((la : Int) == 1) = false := beq_eq_false_iff_ne.2 (by omega)
  have w1 : IntKind.i64.wrap ((b : Int) - m) = (lb : Int) := by rw [IntKind.wrap_i64]; omega
  have z1 : (b : Int) - m = (lb : Int) := by omega
  have z1b : ((lb : Int) == 1) = false := beq_eq_false_iff_ne.2 (by omega)
  have zmd : ((a : Int) + (b : Int)) / 2 = (md : Int) := by omega
  have znn : (md : Int) + (m : Int) = (nn : Int) := by omega
  have wnn : IntKind.i64.wrap ((md : Int) + (m : Int)) = (nn : Int) := by rw [IntKind.wrap_i64]; omega
  have zp : (nn : Int) - 1 = (p : Int) := by omega
  have wp : IntKind.i64.wrap ((nn : Int) - 1) = (p : Int) := by rw [IntKind.wrap_i64]; omega
  have ham : a + 2 ≤ m := by omega
  have hmb : m + 2 ≤ b := by omega
  have hbN : b ≤ N := by omega
  have hmda : a ≤ md := by omega
  have hmdb : md ≤ b := by omega
  have hnn1 : m ≤ nn := by omega
  have hnn2 : nn ≤ N + N := by omega
  have HNB := Lib.hid (show b = m + B.length ∧ m = a + A.length ∧ p + 1 = nn ∧ nn = md + m by omega)
  have HNNV := Lib.hid (show nn = md + m ∧ 2 * md ≤ a + b ∧ a + b ≤ 2 * md + 1 by omega)
  have HPARTS0 := Lib.hid (fun (s e : Nat) (he : e = nn - s) h3 h4 h5 h6 K1 K2 => sym_parts (key := mm) R N hN hsz (.func (.func 88) #[] cb) cap L A B Q a m b md nn s e ha (by omega) (by omega) hs sA sB (by omega) hmd hnn he h3 h4 h5 h6 ih K1 K2)
  have HCUT0 := Lib.hid (fun (s lo0 hi0 : Nat) h1 h2 h3 h4 h5 h6 h7 h8 LO HI => sym_cut (p := p) sA sB (a := a) (m := m) (b := b) (md := md) (nn := nn) (s := s) (lo0 := lo0) (hi0 := hi0) (by omega) (by omega) hnn (by omega) h1 h2 h3 h4 h5 h6 h7 h8 LO HI)
  rcases Nat.lt_or_ge md m with hic | hic
  · obtain ⟨lo0, hlo⟩ : ∃ q, q = nn - b := ⟨_, rfl⟩
    obtain ⟨hi0, hhi⟩ : ∃ q, q = md := ⟨_, rfl⟩
    have c1 : (md : Int) < m := by omega
    have c0 : md < m := hic
    have c2 : decide ((md : Int) < m) = true := decide_eq_true c1
    have zlo : (nn : Int) - b = (lo0 : Int) := by omega
    have wlo : IntKind.i64.wrap ((nn : Int) - b) = (lo0 : Int) := by rw [IntKind.wrap_i64]; omega
    have hlh : lo0 ≤ hi0 := by omega
    have hal : a ≤ lo0 := by omega
    have hhm : hi0 ≤ m := by omega
    have hhd : hi0 ≤ md := by omega
    have hlb : nn ≤ lo0 + b := by omega
    have HCUT := Lib.hid (fun s h1 h2 LO HI => HCUT0.out s lo0 hi0 h1 h2 hal hhm hhd (.inr (by omega)) (.inr hhi) hlb LO HI)
    have HPARTS := Lib.hid HPARTS0.out
    have HHI0 := Lib.hid hhi
    have HLO0 : Hid ((lo0 : Int) = lo0) := rfl
    clear S ha hm hb hs hN hC sA sB hA2 hB2 hlaE hlbE hlb hmd hnn hp ih HPARTS0 HCUT0 hlo hhi hic
    go_enter Tryz.func146, Tryz.ntmps146
    go_wp2_with fail
    go_loopg [20, 21, 23] (hi0 - lo0) (fun gk s20 s21 s23 wr => ∃ s r : Nat, s20 = .int .i64 s ∧ s21 = .int .i64 r ∧ lo0 ≤ s ∧ s ≤ r ∧ r ≤ hi0 ∧ r - s ≤ gk ∧ Hid (SW encN w0 blk off (L ++ (A ++ (B ++ Q))).toArray wr) ∧ Hid (CutLo mm A B a m p lo0 s) ∧ Hid (CutHi mm A B a m p hi0 r))
    case atStart => exact ⟨lo0, hi0, by first | rfl | rw [HLO0.out], by rw [HHI0.out], Nat.le_refl _, hlh, Nat.le_refl _, Nat.le_refl _, HSW0, Or.inl rfl, Or.inl rfl⟩
    case round =>
      clear HSW0
      obtain ⟨s, r, rfl, rfl, hls, hsr, hrh, hgk, HSW, HLO, HHI⟩ := hrel
      by_cases hlt : s < r
      · obtain ⟨c, hc⟩ : ∃ c, c = (s + r) / 2 := ⟨_, rfl⟩
        obtain ⟨pc, hpc⟩ : ∃ c', c' = p - c := ⟨_, rfl⟩
        have hb1 := HNB.out
        obtain ⟨x, hx⟩ : ∃ x, A[c - a]? = some x := ⟨A[c - a]'(by omega), List.getElem?_eq_getElem _⟩
        obtain ⟨y, hy⟩ : ∃ y, B[pc - m]? = some y := ⟨B[pc - m]'(by omega), List.getElem?_eq_getElem _⟩
        have ec : ((s : Int) + (r : Int)) / 2 = (c : Int) := by omega
        have epc : (p : Int) - (c : Int) = (pc : Int) := by omega
        have wpc : IntKind.i64.wrap (pc : Int) = (pc : Int) := by rw [IntKind.wrap_i64]; omega
        have pcs : (0 : Int) ≤ (pc : Int) := by omega
        have cs0 : (0 : Int) ≤ (c : Int) := by omega
        have hi2 : (s : Int) < r := by omega
        have bc : (c : Int) < N := by omega
        have bpc : (pc : Int) < N := by omega
        have hga := HGA.out _ x hx
        rw [show a + (c - a) = c by omega] at hga
        have hgb := HGB.out _ y hy
        rw [show m + (pc - m) = pc by omega] at hgb
        have q1 := row_cell HSW.out R (by rw [HL.out, HN.out]) hgb
        have q2 := row_cell HSW.out R (by rw [HL.out, HN.out]) hga
        have hcq := HSW.out.cmp HC.out (by have := HL.out; simpa using this) y x
        have hsc : s ≤ c := by omega
        have hcr : c < r := by omega
        have hc1 : c + 1 ≤ hi0 := by omega
        rw [hpc] at hy
        have HX := Lib.hid hx
        have HY := Lib.hid hy
        clear hx hy hga hgb hb1 hc hpc
        cases hlv : ltK mm y x with
        | true =>
          have hd := cmp_lt hlv
          have HNX : Hid (CutHi mm A B a m p hi0 c) := Or.inr ⟨x, y, HX.out, HY.out, of_decide_eq_true hlv⟩
          clear hlv
          go_wp2_with fail
          go_quiet_grown (first | (go_at_fn 88; refine Calls.grown_of (hcq _ _)))
          have S2 := Lib.hid (HSW.out.grown nq osq)
          clear q1 q2 hcq HSW
          generalize grow (wr.drewN nq) osq = w2 at S2 ⊢
          clear nq osq
          go_wp2_with fail
          go_roundg (gk - 1)
          case measure => omega
          case rel => exact ⟨s, c, rfl, by first | rfl | go_num, hls, hsc, by omega, by omega, S2, HLO, HNX⟩
        | false =>
          have hd := cmp_ge hlv
          have HNX : Hid (CutLo mm A B a m p lo0 (c + 1)) := Or.inr ⟨x, y, by rw [Nat.add_sub_cancel]; exact HX.out, by rw [Nat.add_sub_cancel]; exact HY.out, by have := of_decide_eq_false hlv; omega⟩
          clear hlv
          go_wp2_with fail
          go_quiet_grown (first | (go_at_fn 88; refine Calls.grown_of (hcq _ _)))
          have S2 := Lib.hid (HSW.out.grown nq osq)
          clear q1 q2 hcq HSW
          generalize grow (wr.drewN nq) osq = w2 at S2 ⊢
          clear nq osq
          go_wp2_with fail
          go_roundg (gk - 1)
          case measure => omega
          case rel => exact ⟨c + 1, r, by first | rfl | go_num, rfl, by omega, by omega, hrh, by omega, S2, HNX, HHI⟩
      · obtain hrs : r = s := by omega
        have hnl : ¬ (s : Int) < r := by omega
        rw [hrs] at HHI
        have hcut := HCUT.out s hls (by omega) HLO.out HHI.out
        obtain ⟨e, he⟩ : ∃ e, e = nn - s := ⟨_, rfl⟩
        have hb1 := HNB.out
        have hnnv := HNNV.out
        rw [← he] at hcut
        obtain ⟨D1, D2, hP⟩ := HPARTS.out s e he (by omega) (by omega) (by omega) (by omega) hcut.1 hcut.2
        have HP := Lib.hid hP
        have ze : (nn : Int) - (s : Int) = (e : Int) := by omega
        have we : IntKind.i64.wrap ((nn : Int) - (s : Int)) = (e : Int) := by rw [IntKind.wrap_i64]; omega
        have x1 : a ≤ s := by omega
        have x2 : s ≤ m := by omega
        have x3 : s ≤ md := by omega
        have x4 : m ≤ e := by omega
        have x5 : e ≤ b := by omega
        have x6 : s + e = md + m := by omega
        clear hcut hP HLO HHI HCUT HPARTS HGA HGB hrs he hb1 hnnv HNB HNNV
        by_cases q1s : s < m
        · by_cases q2s : s < md
          · by_cases q3s : a < s
            · by_cases q4s : e < b
              · have dA : decide ((s : Int) < m) = true := by simp <;> omega
                have dB : decide ((m : Int) < e) = true := by simp <;> omega
                have dC : decide ((a : Int) < s) = true := by simp <;> omega
                have dD : decide ((s : Int) < md) = true := by simp <;> omega
                have dE : decide ((md : Int) < e) = true := by simp <;> omega
                have dF : decide ((e : Int) < b) = true := by simp <;> omega
                have pA : (s : Int) < m := by omega
                have pB : (m : Int) < e := by omega
                have pC : (a : Int) < s := by omega
                have pD : (s : Int) < md := by omega
                have pE : (md : Int) < e := by omega
                have pF : (e : Int) < b := by omega
                have HR1 := Lib.hid (HP.out.rot (by omega) (by omega))
                have HR2 := Lib.hid (HP.out.one (by omega) (by omega))
                have HR3 := Lib.hid (HP.out.two (by omega) (by omega))
                have hS0 := HSW.out
                clear HP HSW q1s q2s q3s q4s
                go_wp2_with fail
                refine (HR1.out _ hS0).mono ?_
                rintro e0 W0 ⟨rfl, hS1⟩
                clear hS0
                have hS0 := hS1
                clear hS1
                go_wp2_with fail
                refine (HR2.out _ hS0).mono ?_
                rintro e1 W1 ⟨rfl, hS2⟩
                clear hS0
                have hS0 := hS2
                clear hS2
                go_wp2_with fail
                refine (HR3.out _ hS0).mono ?_
                rintro e2 W2 ⟨rfl, hS3⟩
                clear hS0
                have hS0 := hS3
                clear hS3
                go_wp2_with fail
                go_end0
                exact ⟨rfl, hS0⟩
              · have dA : decide ((s : Int) < m) = true := by simp <;> omega
                have dB : decide ((m : Int) < e) = true := by simp <;> omega
                have dC : decide ((a : Int) < s) = true := by simp <;> omega
                have dD : decide ((s : Int) < md) = true := by simp <;> omega
                have dE : decide ((md : Int) < e) = true := by simp <;> omega
                have dF : decide ((e : Int) < b) = false := by simp <;> omega
                have pA : (s : Int) < m := by omega
                have pB : (m : Int) < e := by omega
                have pC : (a : Int) < s := by omega
                have pD : (s : Int) < md := by omega
                have pE : (md : Int) < e := by omega
                have pF : ¬ (e : Int) < b := by omega
                have HR1 := Lib.hid (HP.out.rot (by omega) (by omega))
                have HR2 := Lib.hid (HP.out.one (by omega) (by omega))
                have HR3 := Lib.hid (HP.out.e23 (by omega))
                have hS0 := HSW.out
                clear HP HSW q1s q2s q3s q4s
                go_wp2_with fail
                refine (HR1.out _ hS0).mono ?_
                rintro e0 W0 ⟨rfl, hS1⟩
                clear hS0
                have hS0 := hS1
                clear hS1
                go_wp2_with fail
                refine (HR2.out _ hS0).mono ?_
                rintro e1 W1 ⟨rfl, hS2⟩
                clear hS0
                have hS0 := hS2
                clear hS2
                go_wp2_with fail
                rw [HR3.out] at hS0
                go_end0
                exact ⟨rfl, hS0⟩
            · by_cases q4s : e < b
              · exfalso
                omega
              · have dA : decide ((s : Int) < m) = true := by simp <;> omega
                have dB : decide ((m : Int) < e) = true := by simp <;> omega
                have dC : decide ((a : Int) < s) = false := by simp <;> omega
                have dD : decide ((s : Int) < md) = true := by simp <;> omega
                have dE : decide ((md : Int) < e) = true := by simp <;> omega
                have dF : decide ((e : Int) < b) = false := by simp <;> omega
                have pA : (s : Int) < m := by omega
                have pB : (m : Int) < e := by omega
                have pC : ¬ (a : Int) < s := by omega
                have pD : (s : Int) < md := by omega
                have pE : (md : Int) < e := by omega
                have pF : ¬ (e : Int) < b := by omega
                have HR1 := Lib.hid (HP.out.rot (by omega) (by omega))
                have HR2 := Lib.hid (HP.out.e12 (by omega))
                have HR3 := Lib.hid (HP.out.e23 (by omega))
                have hS0 := HSW.out
                clear HP HSW q1s q2s q3s q4s
                go_wp2_with fail
                refine (HR1.out _ hS0).mono ?_
                rintro e0 W0 ⟨rfl, hS1⟩
                clear hS0
                have hS0 := hS1
                clear hS1
                go_wp2_with fail
                rw [HR2.out] at hS0
                rw [HR3.out] at hS0
                go_end0
                exact ⟨rfl, hS0⟩
          · by_cases q3s : a < s
            · by_cases q4s : e < b
              · have dA : decide ((s : Int) < m) = true := by simp <;> omega
                have dB : decide ((m : Int) < e) = false := by simp <;> omega
                have dC : decide ((a : Int) < s) = true := by simp <;> omega
                have dD : decide ((s : Int) < md) = false := by simp <;> omega
                have dE : decide ((md : Int) < e) = true := by simp <;> omega
                have dF : decide ((e : Int) < b) = true := by simp <;> omega
                have pA : (s : Int) < m := by omega
                have pB : ¬ (m : Int) < e := by omega
                have pC : (a : Int) < s := by omega
                have pD : ¬ (s : Int) < md := by omega
                have pE : (md : Int) < e := by omega
                have pF : (e : Int) < b := by omega
                have HR1 := Lib.hid (HP.out.e01 (by omega))
                have HR2 := Lib.hid (HP.out.e12 (by omega))
                have HR3 := Lib.hid (HP.out.two (by omega) (by omega))
                have hS0 := HSW.out
                clear HP HSW q1s q2s q3s q4s
                go_wp2_with fail
                rw [HR1.out] at hS0
                rw [HR2.out] at hS0
                refine (HR3.out _ hS0).mono ?_
                rintro e2 W2 ⟨rfl, hS3⟩
                clear hS0
                have hS0 := hS3
                clear hS3
                go_wp2_with fail
                go_end0
                exact ⟨rfl, hS0⟩
              · exfalso
                omega
            · by_cases q4s : e < b
              · exfalso
                omega
              · exfalso
                omega
        · by_cases q2s : s < md
          · by_cases q3s : a < s
            · by_cases q4s : e < b
              · exfalso
                omega
              · exfalso
                omega
            · by_cases q4s : e < b
              · exfalso
                omega
              · exfalso
                omega
          · by_cases q3s : a < s
            · by_cases q4s : e < b
              · exfalso
                omega
              · exfalso
                omega
            · by_cases q4s : e < b
              · exfalso
                omega
              · exfalso
                omega
  · obtain ⟨lo0, hlo⟩ : ∃ q, q = a := ⟨_, rfl⟩
    obtain ⟨hi0, hhi⟩ : ∃ q, q = m := ⟨_, rfl⟩
    have c1 : ¬ (md : Int) < m := by omega
    have c0 : m ≤ md := hic
    have c2 : decide ((md : Int) < m) = false := decide_eq_false c1
    have hlh : lo0 ≤ hi0 := by omega
    have hal : a ≤ lo0 := by omega
    have hhm : hi0 ≤ m := by omega
    have hhd : hi0 ≤ md := by omega
    have hlb : nn ≤ lo0 + b := by omega
    have HCUT := Lib.hid (fun s h1 h2 LO HI => HCUT0.out s lo0 hi0 h1 h2 hal hhm hhd (.inl hlo) (.inl hhi) hlb LO HI)
    have HPARTS := Lib.hid HPARTS0.out
    have HHI0 := Lib.hid hhi
    have HLO0 : Hid ((a : Int) = lo0) := by rw [Hid, hlo]
    clear S ha hm hb hs hN hC sA sB hA2 hB2 hlaE hlbE hlb hmd hnn hp ih HPARTS0 HCUT0 hlo hhi hic
    go_enter Tryz.func146, Tryz.ntmps146
    go_wp2_with fail
    go_loopg [20, 21, 23] (hi0 - lo0) (fun gk s20 s21 s23 wr => ∃ s r : Nat, s20 = .int .i64 s ∧ s21 = .int .i64 r ∧ lo0 ≤ s ∧ s ≤ r ∧ r ≤ hi0 ∧ r - s ≤ gk ∧ Hid (SW encN w0 blk off (L ++ (A ++ (B ++ Q))).toArray wr) ∧ Hid (CutLo mm A B a m p lo0 s) ∧ Hid (CutHi mm A B a m p hi0 r))
    case atStart => exact ⟨lo0, hi0, by first | rfl | rw [HLO0.out], by rw [HHI0.out], Nat.le_refl _, hlh, Nat.le_refl _, Nat.le_refl _, HSW0, Or.inl rfl, Or.inl rfl⟩
    case round =>
      clear HSW0
      obtain ⟨s, r, rfl, rfl, hls, hsr, hrh, hgk, HSW, HLO, HHI⟩ := hrel
      by_cases hlt : s < r
      · obtain ⟨c, hc⟩ : ∃ c, c = (s + r) / 2 := ⟨_, rfl⟩
        obtain ⟨pc, hpc⟩ : ∃ c', c' = p - c := ⟨_, rfl⟩
        have hb1 := HNB.out
        obtain ⟨x, hx⟩ : ∃ x, A[c - a]? = some x := ⟨A[c - a]'(by omega), List.getElem?_eq_getElem _⟩
        obtain ⟨y, hy⟩ : ∃ y, B[pc - m]? = some y := ⟨B[pc - m]'(by omega), List.getElem?_eq_getElem _⟩
        have ec : ((s : Int) + (r : Int)) / 2 = (c : Int) := by omega
        have epc : (p : Int) - (c : Int) = (pc : Int) := by omega
        have wpc : IntKind.i64.wrap (pc : Int) = (pc : Int) := by rw [IntKind.wrap_i64]; omega
        have pcs : (0 : Int) ≤ (pc : Int) := by omega
        have cs0 : (0 : Int) ≤ (c : Int) := by omega
        have hi2 : (s : Int) < r := by omega
        have bc : (c : Int) < N := by omega
        have bpc : (pc : Int) < N := by omega
        have hga := HGA.out _ x hx
        rw [show a + (c - a) = c by omega] at hga
        have hgb := HGB.out _ y hy
        rw [show m + (pc - m) = pc by omega] at hgb
        have q1 := row_cell HSW.out R (by rw [HL.out, HN.out]) hgb
        have q2 := row_cell HSW.out R (by rw [HL.out, HN.out]) hga
        have hcq := HSW.out.cmp HC.out (by have := HL.out; simpa using this) y x
        have hsc : s ≤ c := by omega
        have hcr : c < r := by omega
        have hc1 : c + 1 ≤ hi0 := by omega
        rw [hpc] at hy
        have HX := Lib.hid hx
        have HY := Lib.hid hy
        clear hx hy hga hgb hb1 hc hpc
        cases hlv : ltK mm y x with
        | true =>
          have hd := cmp_lt hlv
          have HNX : Hid (CutHi mm A B a m p hi0 c) := Or.inr ⟨x, y, HX.out, HY.out, of_decide_eq_true hlv⟩
          clear hlv
          go_wp2_with fail
          go_quiet_grown (first | (go_at_fn 88; refine Calls.grown_of (hcq _ _)))
          have S2 := Lib.hid (HSW.out.grown nq osq)
          clear q1 q2 hcq HSW
          generalize grow (wr.drewN nq) osq = w2 at S2 ⊢
          clear nq osq
          go_wp2_with fail
          go_roundg (gk - 1)
          case measure => omega
          case rel => exact ⟨s, c, rfl, by first | rfl | go_num, hls, hsc, by omega, by omega, S2, HLO, HNX⟩
        | false =>
          have hd := cmp_ge hlv
          have HNX : Hid (CutLo mm A B a m p lo0 (c + 1)) := Or.inr ⟨x, y, by rw [Nat.add_sub_cancel]; exact HX.out, by rw [Nat.add_sub_cancel]; exact HY.out, by have := of_decide_eq_false hlv; omega⟩
          clear hlv
          go_wp2_with fail
          go_quiet_grown (first | (go_at_fn 88; refine Calls.grown_of (hcq _ _)))
          have S2 := Lib.hid (HSW.out.grown nq osq)
          clear q1 q2 hcq HSW
          generalize grow (wr.drewN nq) osq = w2 at S2 ⊢
          clear nq osq
          go_wp2_with fail
          go_roundg (gk - 1)
          case measure => omega
          case rel => exact ⟨c + 1, r, by first | rfl | go_num, rfl, by omega, by omega, hrh, by omega, S2, HNX, HHI⟩
      · obtain hrs : r = s := by omega
        have hnl : ¬ (s : Int) < r := by omega
        rw [hrs] at HHI
        have hcut := HCUT.out s hls (by omega) HLO.out HHI.out
        obtain ⟨e, he⟩ : ∃ e, e = nn - s := ⟨_, rfl⟩
        have hb1 := HNB.out
        have hnnv := HNNV.out
        rw [← he] at hcut
        obtain ⟨D1, D2, hP⟩ := HPARTS.out s e he (by omega) (by omega) (by omega) (by omega) hcut.1 hcut.2
        have HP := Lib.hid hP
        have ze : (nn : Int) - (s : Int) = (e : Int) := by omega
        have we : IntKind.i64.wrap ((nn : Int) - (s : Int)) = (e : Int) := by rw [IntKind.wrap_i64]; omega
        have x1 : a ≤ s := by omega
        have x2 : s ≤ m := by omega
        have x3 : s ≤ md := by omega
        have x4 : m ≤ e := by omega
        have x5 : e ≤ b := by omega
        have x6 : s + e = md + m := by omega
        clear hcut hP HLO HHI HCUT HPARTS HGA HGB hrs he hb1 hnnv HNB HNNV
        by_cases q1s : s < m
        · by_cases q2s : s < md
          · by_cases q3s : a < s
            · by_cases q4s : e < b
              · have dA : decide ((s : Int) < m) = true := by simp <;> omega
                have dB : decide ((m : Int) < e) = true := by simp <;> omega
                have dC : decide ((a : Int) < s) = true := by simp <;> omega
                have dD : decide ((s : Int) < md) = true := by simp <;> omega
                have dE : decide ((md : Int) < e) = true := by simp <;> omega
                have dF : decide ((e : Int) < b) = true := by simp <;> omega
                have pA : (s : Int) < m := by omega
                have pB : (m : Int) < e := by omega
                have pC : (a : Int) < s := by omega
                have pD : (s : Int) < md := by omega
                have pE : (md : Int) < e := by omega
                have pF : (e : Int) < b := by omega
                have HR1 := Lib.hid (HP.out.rot (by omega) (by omega))
                have HR2 := Lib.hid (HP.out.one (by omega) (by omega))
                have HR3 := Lib.hid (HP.out.two (by omega) (by omega))
                have hS0 := HSW.out
                clear HP HSW q1s q2s q3s q4s
                go_wp2_with fail
                refine (HR1.out _ hS0).mono ?_
                rintro e0 W0 ⟨rfl, hS1⟩
                clear hS0
                have hS0 := hS1
                clear hS1
                go_wp2_with fail
                refine (HR2.out _ hS0).mono ?_
                rintro e1 W1 ⟨rfl, hS2⟩
                clear hS0
                have hS0 := hS2
                clear hS2
                go_wp2_with fail
                refine (HR3.out _ hS0).mono ?_
                rintro e2 W2 ⟨rfl, hS3⟩
                clear hS0
                have hS0 := hS3
                clear hS3
                go_wp2_with fail
                go_end0
                exact ⟨rfl, hS0⟩
              · exfalso
                omega
            · by_cases q4s : e < b
              · have dA : decide ((s : Int) < m) = true := by simp <;> omega
                have dB : decide ((m : Int) < e) = true := by simp <;> omega
                have dC : decide ((a : Int) < s) = false := by simp <;> omega
                have dD : decide ((s : Int) < md) = true := by simp <;> omega
                have dE : decide ((md : Int) < e) = true := by simp <;> omega
                have dF : decide ((e : Int) < b) = true := by simp <;> omega
                have pA : (s : Int) < m := by omega
                have pB : (m : Int) < e := by omega
                have pC : ¬ (a : Int) < s := by omega
                have pD : (s : Int) < md := by omega
                have pE : (md : Int) < e := by omega
                have pF : (e : Int) < b := by omega
                have HR1 := Lib.hid (HP.out.rot (by omega) (by omega))
                have HR2 := Lib.hid (HP.out.e12 (by omega))
                have HR3 := Lib.hid (HP.out.two (by omega) (by omega))
                have hS0 := HSW.out
                clear HP HSW q1s q2s q3s q4s
                go_wp2_with fail
                refine (HR1.out _ hS0).mono ?_
                rintro e0 W0 ⟨rfl, hS1⟩
                clear hS0
                have hS0 := hS1
                clear hS1
                go_wp2_with fail
                rw [HR2.out] at hS0
                refine (HR3.out _ hS0).mono ?_
                rintro e2 W2 ⟨rfl, hS3⟩
                clear hS0
                have hS0 := hS3
                clear hS3
                go_wp2_with fail
                go_end0
                exact ⟨rfl, hS0⟩
              · have dA : decide ((s : Int) < m) = true := by simp <;> omega
                have dB : decide ((m : Int) < e) = true := by simp <;> omega
                have dC : decide ((a : Int) < s) = false := by simp <;> omega
                have dD : decide ((s : Int) < md) = true := by simp <;> omega
                have dE : decide ((md : Int) < e) = true := by simp <;> omega
                have dF : decide ((e : Int) < b) = false := by simp <;> omega
                have pA : (s : Int) < m := by omega
                have pB : (m : Int) < e := by omega
                have pC : ¬ (a : Int) < s := by omega
                have pD : (s : Int) < md := by omega
                have pE : (md : Int) < e := by omega
                have pF : ¬ (e : Int) < b := by omega
                have HR1 := Lib.hid (HP.out.rot (by omega) (by omega))
                have HR2 := Lib.hid (HP.out.e12 (by omega))
                have HR3 := Lib.hid (HP.out.e23 (by omega))
                have hS0 := HSW.out
                clear HP HSW q1s q2s q3s q4s
                go_wp2_with fail
                refine (HR1.out _ hS0).mono ?_
                rintro e0 W0 ⟨rfl, hS1⟩
                clear hS0
                have hS0 := hS1
                clear hS1
                go_wp2_with fail
                rw [HR2.out] at hS0
                rw [HR3.out] at hS0
                go_end0
                exact ⟨rfl, hS0⟩
          · by_cases q3s : a < s
            · by_cases q4s : e < b
              · exfalso
                omega
              · exfalso
                omega
            · by_cases q4s : e < b
              · exfalso
                omega
              · exfalso
                omega
        · by_cases q2s : s < md
          · by_cases q3s : a < s
            · by_cases q4s : e < b
              · have dA : decide ((s : Int) < m) = false := by simp <;> omega
                have dB : decide ((m : Int) < e) = true := by simp <;> omega
                have dC : decide ((a : Int) < s) = true := by simp <;> omega
                have dD : decide ((s : Int) < md) = true := by simp <;> omega
                have dE : decide ((md : Int) < e) = false := by simp <;> omega
                have dF : decide ((e : Int) < b) = true := by simp <;> omega
                have pA : ¬ (s : Int) < m := by omega
                have pB : (m : Int) < e := by omega
                have pC : (a : Int) < s := by omega
                have pD : (s : Int) < md := by omega
                have pE : ¬ (md : Int) < e := by omega
                have pF : (e : Int) < b := by omega
                have HR1 := Lib.hid (HP.out.e01 (by omega))
                have HR2 := Lib.hid (HP.out.one (by omega) (by omega))
                have HR3 := Lib.hid (HP.out.e23 (by omega))
                have hS0 := HSW.out
                clear HP HSW q1s q2s q3s q4s
                go_wp2_with fail
                rw [HR1.out] at hS0
                refine (HR2.out _ hS0).mono ?_
                rintro e1 W1 ⟨rfl, hS2⟩
                clear hS0
                have hS0 := hS2
                clear hS2
                go_wp2_with fail
                rw [HR3.out] at hS0
                go_end0
                exact ⟨rfl, hS0⟩
              · exfalso
                omega
            · by_cases q4s : e < b
              · exfalso
                omega
              · exfalso
                omega
          · by_cases q3s : a < s
            · by_cases q4s : e < b
              · have dA : decide ((s : Int) < m) = false := by simp <;> omega
                have dB : decide ((m : Int) < e) = false := by simp <;> omega
                have dC : decide ((a : Int) < s) = true := by simp <;> omega
                have dD : decide ((s : Int) < md) = false := by simp <;> omega
                have dE : decide ((md : Int) < e) = false := by simp <;> omega
                have dF : decide ((e : Int) < b) = true := by simp <;> omega
                have pA : ¬ (s : Int) < m := by omega
                have pB : ¬ (m : Int) < e := by omega
                have pC : (a : Int) < s := by omega
                have pD : ¬ (s : Int) < md := by omega
                have pE : ¬ (md : Int) < e := by omega
                have pF : (e : Int) < b := by omega
                have HR1 := Lib.hid (HP.out.e01 (by omega))
                have HR2 := Lib.hid (HP.out.e12 (by omega))
                have HR3 := Lib.hid (HP.out.e23 (by omega))
                have hS0 := HSW.out
                clear HP HSW q1s q2s q3s q4s
                go_wp2_with fail
                rw [HR1.out] at hS0
                rw [HR2.out] at hS0
                rw [HR3.out] at hS0
                go_end0
                exact ⟨rfl, hS0⟩
              · exfalso
                omega
            · by_cases q4s : e < b
              · exfalso
                omega
              · exfalso
                omega
end Go.Proofs.YtcnpmebihdonoaaGreatDoor
