/- Places: climbers with their ranks, sorted (placed). -/
import Derived.Test.YtebnbjaaogfikaaGreatDoorGRkG
import Derived.Test.YtebnbjaaogfikaaGreatDoorGRkB
import Derived.Test.YtebnbjaaogfikaaGreatDoorGOpN
import Derived.Test.YtebnbjaaogfikaaGreatDoorGRkE
namespace Go.Proofs.YtebnbjaaogfikaaGreatDoor
open Go.RowKit Go.Lib
set_option linter.unusedSimpArgs false
set_option linter.unusedVariables false
theorem pls_len (ns : List ByteArray) (rs : List Int) (n : Nat) (h1 : ns.length = n) (h2 : rs.length = n) : (pls ns rs).length = n := by
  unfold pls; rw [List.length_zipWith, h1, h2]; omega
theorem pls_get {ns : List ByteArray} {rs : List Int} {i : Nat} {s : ByteArray} {r : Int} (h1 : ns[i]? = some s) (h2 : rs[i]? = some r) : (pls ns rs)[i]? = some ⟨s, r⟩ := by
  unfold pls; rw [List.getElem?_zipWith, h1, h2]
set_option maxHeartbeats 1000000 in
set_option maxRecDepth 100000 in
theorem placed_pos (I : InsOK) (ns : List ByteArray) (rs : List Int) (n g cap b cap2 : Nat) (w : World) (hn : ns.length = n) (hr : rs.length = n) (h0 : 0 < n) (h1 : n < 20)
    (hns : ∀ i s, ns[i]? = some s → w.cell? ⟨g, i, none⟩ = some (.string s)) (hrs : ∀ i r, rs[i]? = some r → w.cell? ⟨b, i, none⟩ = some (.int .i64 r)) :
    Calls Tryz.prog 24 #[.slice (some ⟨g, 0, none⟩) n cap, .slice (some ⟨b, 0, none⟩) n cap2] w fun e w' => ∃ v, e = .returned v ∧ PlsV w' v (srtP (pls ns rs)) ∧ Gr w w' := by
  obtain ⟨i0, hi, hz0, hz1, hz2⟩ := info_parts infoP
  have HNS := Lib.hid hns
  have HRS := Lib.hid hrs
  have hpl : (pls ns rs).length = n := pls_len ns rs n hn hr
  have HPL := Lib.hid hpl
  have HG := Lib.hid (fun i (h : i < n) => (show ∃ x : PlR, (pls ns rs)[i]? = some x ∧ ns[i]? = some x.nm ∧ rs[i]? = some x.rk from ⟨⟨ns[i]'(by omega), rs[i]'(by omega)⟩, pls_get (List.getElem?_eq_getElem (by omega)) (List.getElem?_eq_getElem (by omega)), List.getElem?_eq_getElem _, List.getElem?_eq_getElem _⟩))
  clear hns hrs hn hr
  generalize pls ns rs = ps at *
  clear hpl
  have HS := Lib.hid (fun (F : Nat) (gg cc : Nat) (W : World) h0 h1 hg hb hlt hH hF hne => sortP_c I ps gg cc F (w0 := w) (w := W) h0 h1 hg hb hlt hH hF hne)
  have HO := Lib.hid (fun (W : World) (v : Value) (h : W.ownsRow w.heap.size 64 2 v ps.length (plCs ps)) => holdsK_of_owns h (by rw [HPL.out]; exact h0))
  clear I
  go_enter Tryz.func24, Tryz.ntmps24
  go_wp2_with fail
  go_loopw [5, 10] (fun v i wr => ∃ k : Nat, k ≤ n ∧ i = .int .i64 k ∧ wr.ownsRow w.heap.size 64 2 v k (plCs (ps.take k)) ∧ Below w.heap.size w wr) (fun _ i _ => n - (intOf i).toNat)
  case atStart => exact ⟨0, Nat.zero_le _, rfl, World.ownsRow_nil _ _ _ _, Below.refl _ _⟩
  case round =>
    obtain ⟨k, hk, rfl, hown, hnx⟩ := hrel
    have hsize := hnx.size
    by_cases hkN : k < n
    · obtain ⟨x, hx, hxn, hxr⟩ := HG.out k hkN
      have c0 := Gr.cell hnx (HNS.out k _ hxn)
      have c1 := Gr.cell hnx (HRS.out k _ hxr)
      have HQ := Lib.hid (plCs_take hx)
      have HT := Lib.hid (plCs_len (ps.take k))
      have HT2 := Lib.hid (show (ps.take k).length = k by rw [List.length_take]; have := HPL.out; omega)
      have hi2 : (k : Int) < n := by omega
      clear hx hxn hxr
      go_wp2_with (first
        | (at_builtin; refine wpList_append_own _ rfl _ _ 60 rfl w.heap.size 64 i0 (.agg #[.string ⟨#[]⟩, .int .i64 0]) 2 24 Tryz.underlying60 hi hz0 hz1 hz2 rfl (by decide) _ _ _ rfl (hown.alloc _) ⟨wr.heap.size, 0, none⟩ 1 1 [.string x.nm, .int .i64 x.rk] rfl rfl (cell_two_new _ _ _ _) (by intro u hu; simp at hu; rcases hu with rfl | rfl <;> rfl) (by unfold maxLen; omega) (by omega) (by simp; omega) ?_; intro v1 w1 hown1 hgrow1 hnil1))
      go_roundw
      case rel =>
        exact ⟨k + 1, by omega, by go_num, by rw [HQ.out]; exact hown1, (hnx.alloc hsize _).grown hgrow1 (by simp; omega) (fun j hj => (hown.lt j hj).1)⟩
      case measure => simp [intOf]; omega
    · have hkk : k = n := by omega
      subst hkk
      rw [List.take_of_length_le (by have := HPL.out; omega)] at hown
      have HB := Lib.hid (by_c (.func 53) wr)
      obtain ⟨gg, cc, rfl, hgb, hglt, hH⟩ := HO.out (wr.alloc (.cells #[.func (.func 53) #[] #[]] 97)) _ (by rw [HPL.out]; exact hown.alloc _)
      have hwg : gg < wr.heap.size := (hown.lt gg rfl).2
      have HC := Lib.hid (HS.out wr.heap.size gg cc _ (by rw [HPL.out]; exact h0) (by rw [HPL.out]; exact h1) (hnx.alloc hsize _) hgb hglt hH (cell_new wr #[_] _ 0 (by simp)) (by omega))
      rw [HPL.out] at HC
      rw [HPL.out]
      clear hH hown HS HO HG HNS HRS
      go_wp2_with (first
        | (refine HB.out.mono ?_; rintro e wq ⟨rfl, rfl⟩)
        | (refine HC.out.mono ?_; rintro e wz ⟨rfl, hps, hgr⟩))
      go_ret
      exact ⟨_, rfl, hps, hgr⟩
end Go.Proofs.YtebnbjaaogfikaaGreatDoor
namespace Go.Proofs.YtebnbjaaogfikaaGreatDoor
open Go.RowKit Go.Lib
set_option linter.unusedSimpArgs false
set_option linter.unusedVariables false
set_option maxHeartbeats 1000000
set_option maxRecDepth 100000
theorem insI_0 (p : Option Addr) (cap : Nat) (f : Value) (w : World) :
    Calls Tryz.prog 97 #[.slice p 0 cap, .int .i64 0, .int .i64 0, f] w fun e w' => e = .returned (.tuple #[]) ∧ w' = w := by
  go_enter Tryz.func97, Tryz.ntmps97
  go_wp2_with fail
  refine wp_loop_rounds 2 ?_
  rw [rounds_succ]
  go_wp2_with fail
  go_end0
  exact ⟨rfl, rfl⟩
theorem insP_0 (p : Option Addr) (cap : Nat) (f : Value) (w : World) :
    Calls Tryz.prog 107 #[.slice p 0 cap, .int .i64 0, .int .i64 0, f] w fun e w' => e = .returned (.tuple #[]) ∧ w' = w := by
  go_enter Tryz.func107, Tryz.ntmps107
  go_wp2_with fail
  refine wp_loop_rounds 2 ?_
  rw [rounds_succ]
  go_wp2_with fail
  go_end0
  exact ⟨rfl, rfl⟩
theorem stable_0 (p : Option Addr) (cap : Nat) (f : Value) (w : World) :
    Calls Tryz.prog 79 #[.slice p 0 cap, .int .i64 0, f] w fun e w' => e = .returned (.tuple #[]) ∧ w' = w := by
  have HI := Lib.hid (insP_0 p cap f)
  go_enter Tryz.func79, Tryz.ntmps79
  go_wp2_with fail
  refine wp_loop_rounds 2 ?_
  rw [rounds_succ]
  go_wp2_with (refine (HI.out _).mono ?_; rintro e w4 ⟨rfl, rfl⟩)
  refine wp_loop_rounds 2 ?_
  rw [rounds_succ]
  go_wp2_with fail
  go_end0
  exact ⟨rfl, rfl⟩
theorem sortS_0 (p : Option Addr) (cap : Nat) (f : Value) (w : World) :
    Calls Tryz.prog 51 #[.slice p 0 cap, f] w fun e w' => e = .returned (.tuple #[]) ∧ w' = w := by
  have HI := Lib.hid (stable_0 p cap f)
  go_enter Tryz.func51, Tryz.ntmps51
  go_wp2_with (refine (HI.out _).mono ?_; rintro e w4 ⟨rfl, rfl⟩)
  go_end0
  exact ⟨rfl, rfl⟩
theorem placed_0 (p q : Option Addr) (cap cap2 : Nat) (w : World) :
    Calls Tryz.prog 24 #[.slice p 0 cap, .slice q 0 cap2] w fun e w' => e = .returned (.slice none 0 0) ∧ Gr w w' := by
  have HB := Lib.hid (fun f W => by_c f W)
  have HI := Lib.hid (fun f W => sortS_0 none 0 f W)
  go_enter Tryz.func24, Tryz.ntmps24
  go_wp2_with fail
  refine wp_loop_rounds 2 ?_
  rw [rounds_succ]
  go_wp2_with (first
    | (refine (HB.out _ _).mono ?_; rintro e w4 ⟨rfl, rfl⟩)
    | (refine (HI.out _ _).mono ?_; rintro e w4 ⟨rfl, rfl⟩))
  go_ret
  exact ⟨rfl, (Gr.refl w).alloc _⟩
theorem climbers_0 (p : Option Addr) (cap : Nat) (w : World) :
    Calls Tryz.prog 25 #[.slice p 0 cap] w fun e w' => e = .returned (.slice none 0 0) ∧ w' = w := by
  go_enter Tryz.func25, Tryz.ntmps25
  go_wp2_with fail
  refine wp_loop_rounds 2 ?_
  rw [rounds_succ]
  go_wp2_with fail
  go_ret
  exact ⟨rfl, rfl⟩
theorem len64_0 (w : World) : Calls Tryz.prog 106 #[.int .u64 0] w fun e w' => e = .returned (.int .i64 0) ∧ w' = w := by
  have h0 : wrap64 (wrap64 (len8 0)) = 0 := by kernel_rfl
  go_enter Tryz.func106, Tryz.ntmps106
  go_wp2_with fail
  go_ret
  refine ⟨?_, rfl⟩
  show Ending.returned (.int .i64 (wrap64 (wrap64 (len8 0)))) = _
  rw [h0]
theorem len_0 (w : World) : Calls Tryz.prog 77 #[.int .u64 0] w fun e w' => e = .returned (.int .i64 0) ∧ w' = w := by
  have H := Lib.hid (fun W => len64_0 W)
  go_enter Tryz.func77, Tryz.ntmps77
  go_wp2_with (refine (H.out _).mono ?_; rintro e w4 ⟨rfl, rfl⟩)
  go_ret
  exact ⟨rfl, rfl⟩
theorem pdq_0 (p : Option Addr) (cap : Nat) (f : Value) (w : World) :
    Calls Tryz.prog 76 #[.slice p 0 cap, .int .i64 0, .int .i64 0, .int .i64 0, f] w fun e w' => e = .returned (.tuple #[]) ∧ w' = w := by
  have H := Lib.hid (fun W => insI_0 p cap f W)
  go_enter Tryz.func76, Tryz.ntmps76
  go_wp2_with fail
  refine wp_loop_rounds 2 ?_
  rw [rounds_succ]
  go_wp2_with (refine (H.out _).mono ?_; rintro e w4 ⟨rfl, rfl⟩)
  exact bodyPost_ret (v := .tuple #[]) (by simp [results, Tryz.results76, go_sem]) rfl ⟨rfl, rfl⟩
theorem sortF_0 (p : Option Addr) (cap : Nat) (f : Value) (w : World) :
    Calls Tryz.prog 45 #[.slice p 0 cap, f] w fun e w' => e = .returned (.tuple #[]) ∧ w' = w := by
  have H := Lib.hid (fun W => pdq_0 p cap f W)
  have H2 := Lib.hid (fun W => len_0 W)
  go_enter Tryz.func45, Tryz.ntmps45
  go_wp2_with (first
    | (refine (H.out _).mono ?_; rintro e w4 ⟨rfl, rfl⟩)
    | (refine (H2.out _).mono ?_; rintro e w4 ⟨rfl, rfl⟩))
  go_end0
  exact ⟨rfl, rfl⟩
theorem make_int0 (w : World) : (Instr.makeSlice 27 (.int .i64 0) (.int .i64 0)).run Tryz.prog w = .ok (.slice (some ⟨w.heap.size, 0, none⟩) 0 0) (w.alloc (.cells #[] 3)) := by
  simpa using make_ints 0 (by omega) w
theorem ranks_0 (p : Option Addr) (cap : Nat) (w : World) :
    Calls Tryz.prog 19 #[.slice p 0 cap, .func (.func 20) #[] #[]] w fun e w' => ∃ q cap2, e = .returned (.slice q 0 cap2) ∧ Gr w w' := by
  have HS := Lib.hid (fun p cap f W => sortF_0 p cap f W)
  have hmk := fun W => make_int0 W
  obtain ⟨W1, hW1, g1, l0⟩ := box1 w (.slice p 0 cap) 22
  obtain ⟨W, hW, g2, f0⟩ := box1 W1 (.func (.func 20) #[] #[]) 56
  have HW1 := Lib.hid hW1
  have HW := Lib.hid hW
  have hs1 : W1.heap.size = w.heap.size + 1 := by rw [← hW1, World.size_alloc]
  rw [hs1] at f0
  have l0' := g2.cell l0
  have g := g1.trans g2
  clear hW1 hW
  go_enter Tryz.func19, Tryz.ntmps19
  go_wp2_with fail
  rw [HW1.out, HW.out]
  refine wp_loop_rounds 2 ?_
  rw [rounds_succ]
  have l1 := ((Gr.refl W).alloc (.cells #[] 3)).cell l0'
  have f1 := ((Gr.refl W).alloc (.cells #[] 3)).cell f0
  have g3 := g.alloc (.cells #[] 3)
  clear l0' f0 l0 g1 g2 HW1 HW g
  generalize W.alloc (.cells #[] 3) = W4 at *
  go_wp2_with (refine (HS.out _ _ _ _).mono ?_; rintro e w4 ⟨rfl, rfl⟩)
  refine wp_loop_rounds 2 ?_
  rw [rounds_succ]
  go_wp2_with fail
  go_ret
  exact ⟨_, _, rfl, g3.alloc _⟩
end Go.Proofs.YtebnbjaaogfikaaGreatDoor
namespace Go.Proofs.YtebnbjaaogfikaaGreatDoor
open Go.RowKit Go.Lib
set_option linter.unusedSimpArgs false
set_option linter.unusedVariables false
theorem infoRes : (Tryz.prog.info? 34).map (fun i => (i.zero, i.size, i.bytes)) = some (some (.agg #[.string ⟨#[]⟩, .string ⟨#[]⟩, .slice none 0 0]), 3, 56) := by kernel_rfl
def rowC (r : RowR) : List Value := [.string r.nm, .string r.st, r.u]
def rowCs (rs : List RowR) : List Value := rs.flatMap rowC
theorem rowCs_len (rs : List RowR) : (rowCs rs).length = rs.length * 3 := by
  induction rs with
  | nil => rfl
  | cons x xs ih => simp only [rowCs, List.flatMap_cons, List.length_append, List.length_cons] at *; rw [ih]; simp [rowC]; omega
theorem rowCs_add (rs : List RowR) (r : RowR) : rowCs (rs ++ [r]) = rowCs rs ++ rowC r := by simp [rowCs]
theorem rowCs_at {rs : List RowR} {i : Nat} {x : RowR} (h : rs[i]? = some x) (j : Nat) (hj : j < 3) : (rowCs rs)[i * 3 + j]? = (rowC x)[j]? := by
  induction rs generalizing i with
  | nil => simp at h
  | cons y ys ih =>
    have e : rowCs (y :: ys) = rowC y ++ rowCs ys := rfl
    rw [e]
    cases i with
    | zero =>
      simp only [List.getElem?_cons_zero, Option.some.injEq] at h
      subst h
      rw [show 0 * 3 + j = j by omega, List.getElem?_append_left (by simp [rowC]; omega)]
    | succ i =>
      rw [List.getElem?_append_right (by simp [rowC]; omega)]
      have := ih (i := i) (by simpa using h)
      rw [← this]
      congr 1
      simp [rowC]; omega
theorem own_apart {w : World} {b1 b2 s1 s2 n1 n2 : Nat} {T1 T2 : TypeId} {v1 v2 : Value} {l1 l2 : List Value} (h1 : w.ownsRow b1 T1 s1 v1 n1 l1) (h2 : w.ownsRow b2 T2 s2 v2 n2 l2) (hne : T1 ≠ T2) : v1.ownBlock = none ∨ v1.ownBlock ≠ v2.ownBlock := by
  rcases h1.2 with ⟨rfl, _⟩ | ⟨g, cap, cur, rfl, _, hg, _⟩
  · exact .inl rfl
  · refine .inr fun e => ?_
    rcases h2.2 with ⟨rfl, _⟩ | ⟨g2, cap2, cur2, rfl, _, hg2, _⟩
    · cases e
    · simp only [Value.ownBlock, Option.some.injEq] at e
      subst e
      rw [hg] at hg2
      cases hg2
      exact hne rfl
theorem cell_apart {w : World} {b2 s2 n2 g : Nat} {T1 T2 : TypeId} {v2 : Value} {l2 : List Value} {cs : Array Value} (h1 : w.heap[g]? = some (.cells cs T1 (0, 0))) (h2 : w.ownsRow b2 T2 s2 v2 n2 l2) (hne : T1 ≠ T2) : some g ≠ v2.ownBlock := fun e => by
  rcases h2.2 with ⟨rfl, _⟩ | ⟨g2, cap2, cur2, rfl, _, hg2, _⟩
  · cases e
  · simp only [Value.ownBlock, Option.some.injEq] at e
    subst e
    rw [h1] at hg2
    cases hg2
    exact hne rfl
theorem below_gr {B : Nat} {a b c : World} (h : Below B a b) (k : Gr b c) (hB : B ≤ a.heap.size) : Below B a c := Below.trans h (Below.mono k (Nat.le_trans hB h.size))
theorem cell_three_own (w : World) (a b c : Value) (T : TypeId) : ∀ (j : Nat) (u : Value), [a, b, c][j]? = some u → (w.alloc (.cells #[a, b, c] T)).cell? ((⟨w.heap.size, 0, none⟩ : Addr).add j) = some u := by
  intro j u h
  have e : (⟨w.heap.size, 0, none⟩ : Addr).add j = ⟨w.heap.size, j, none⟩ := by unfold Addr.add; split <;> simp_all
  rw [e]
  rcases j with _ | _ | _ | j
  · simp at h; subst h; exact cell_new w #[a, b, c] T 0 (by simp)
  · simp at h; subst h; exact cell_new w #[a, b, c] T 1 (by simp)
  · simp at h; subst h; exact cell_new w #[a, b, c] T 2 (by simp)
  · simp at h
theorem cell_three_sz (w : World) (s : Nat) (hs : w.heap.size = s) (a b c : Value) (T : TypeId) : ∀ (j : Nat) (u : Value), [a, b, c][j]? = some u → (w.alloc (.cells #[a, b, c] T)).cell? ((⟨s, 0, none⟩ : Addr).add j) = some u := by
  subst hs; exact cell_three_own w a b c T
theorem rowCs_take {xs : List RowR} {k : Nat} {x : RowR} (h : xs[k]? = some x) : rowCs (xs.take (k + 1)) = rowCs (xs.take k) ++ rowC x := by
  rw [List.take_add_one, h]
  simp [rowCs]
/-- rows that have been made, as they read -/
theorem rows_of_owns {w : World} {base : Nat} {v : Value} {ys : List RowR} {T : TypeId} (h : w.ownsRow base T 3 v ys.length (rowCs ys)) (h0 : 0 < ys.length) (hv : ∀ (i : Nat) (x : RowR), ys[i]? = some x → IntsV w x.u x.xs ∧ x.xs.length ≤ 1000) :
    ∃ g cap, v = .slice (some ⟨g, 0, none⟩) ys.length cap ∧ base ≤ g ∧ ys.length ≤ cap ∧ cap ≤ maxLen ∧ ∀ i x, ys[i]? = some x → RowAt w g (0 + i * 3) x := by
  have hh := h
  rcases h.2 with ⟨rfl, h0'⟩ | ⟨g, cap, cur, rfl, hb, hcur, hle, hmx, h5, h6⟩
  · omega
  · refine ⟨g, cap, rfl, hb, by omega, by omega, fun i x hx => ?_⟩
    have e : ∀ t, (⟨g, 0, none⟩ : Addr).add t = ⟨g, t, none⟩ := fun t => by unfold Addr.add; split <;> simp_all
    have c : ∀ (j : Nat) (u : Value), j < 3 → (rowC x)[j]? = some u → w.cell? ⟨g, i * 3 + j, none⟩ = some u := fun j u hj hu => by
      have := hh.cells (g := g) rfl (i * 3 + j) u (by rw [rowCs_at hx j hj]; exact hu)
      rwa [e] at this
    rw [Nat.zero_add]
    exact ⟨c 0 _ (by omega) rfl, c 1 _ (by omega) rfl, c 2 _ (by omega) rfl, (hv i x hx).1, (hv i x hx).2⟩
end Go.Proofs.YtebnbjaaogfikaaGreatDoor
namespace Go.Proofs.YtebnbjaaogfikaaGreatDoor
open Go.RowKit Go.Lib
set_option linter.unusedSimpArgs false
set_option linter.unusedVariables false
set_option maxRecDepth 100000 in
theorem rank_ok (hS : SortFOK) (xs : List RowR) {v : Value} {w : World} (h : RowsV w v xs) (h0 : 0 < xs.length) (h1 : xs.length ≤ 160) (hSt : StatesIn w) (hE : rowFrom xs (firstV xs) xs.length 0 = 0) :
    Calls Tryz.prog 7 #[v] w fun e w' => ∃ R, e = .returned (.tuple #[.slice (some ⟨R, 0, none⟩) xs.length xs.length, .int .i64 0]) ∧ w.heap.size ≤ R ∧ w'.heap[R]? = some (.cells (ints (ranksL xs)).toArray 3 (0, 0)) ∧ Gr w w' := by
  obtain ⟨⟨p, cap, rfl, hcap, hh⟩⟩ := h
  obtain ⟨b, off, rfl, hc⟩ := hh h0
  have HC := Lib.hid (checkRound_pos xs _ b off cap w rfl h1 hcap.1 hcap.2 hSt hc)
  rw [hE] at HC
  have HR := Lib.hid (fun (W : World) (g : Gr w W) => ranks_pos hS xs _ b off cap W rfl h0 h1 (hSt.gr g) (fun i x hx => (hc i x hx).gr g))
  generalize ranksL xs = L at *
  clear hc hh hE hSt hS
  generalize xs.length = n at *
  go_enter Tryz.func7, Tryz.ntmps7
  go_wp2_with fail
  refine HC.out.mono ?_
  rintro e w1 ⟨rfl, g⟩
  go_wp2_with fail
  refine (HR.out _ g).mono ?_
  rintro e w2 ⟨R, rfl, hR, hh, g2⟩
  go_wp2_with fail
  exact bodyPost_ret (v := .tuple #[.slice (some ⟨R, 0, none⟩) n n, .int .i64 0]) (by simp [results, Tryz.results7, go_sem]) rfl ⟨R, rfl, Nat.le_trans g.size hR, hh, g.trans g2⟩
end Go.Proofs.YtebnbjaaogfikaaGreatDoor
namespace Go.Proofs.YtebnbjaaogfikaaGreatDoor
open Go.RowKit Go.Lib
set_option linter.unusedSimpArgs false
set_option linter.unusedVariables false
/-- the results with values -/
def fine (xs : List RowR) : List RowR := xs.filter hasV
theorem fine_take {xs : List RowR} {k : Nat} {x : RowR} (h : xs[k]? = some x) : fine (xs.take (k + 1)) = fine (xs.take k) ++ (if hasV x then [x] else []) := by
  rw [List.take_add_one, h]
  unfold fine
  rw [List.filter_append]
  cases e : hasV x <;> simp [e]
/-- the names of those at a rank of at most m -/
def goOn (m : Int) (ps : List PlR) : List ByteArray := (ps.filter fun p => decide (p.rk ≤ m)).map fun p => p.nm
theorem goOn_take {m : Int} {ps : List PlR} {k : Nat} {x : PlR} (h : ps[k]? = some x) : goOn m (ps.take (k + 1)) = goOn m (ps.take k) ++ (if decide (x.rk ≤ m) then [x.nm] else []) := by
  rw [List.take_add_one, h]
  unfold goOn
  rw [List.filter_append, List.map_append]
  by_cases e : x.rk ≤ m <;> simp [e]
def strsV (ns : List ByteArray) : List Value := ns.map fun s => .string s
/-- the slice v reads as the names ns -/
structure StrsV (w : World) (v : Value) (ns : List ByteArray) : Prop where
  mk' ::
  out : ∃ p cap, v = .slice p ns.length cap ∧ (ns.length ≤ cap ∧ cap ≤ maxLen) ∧ ((ns = [] ∧ p = none ∧ cap = 0) ∨ ∃ b, p = some ⟨b, 0, none⟩ ∧ ∀ i s, ns[i]? = some s → w.cell? ⟨b, i, none⟩ = some (.string s))
theorem StrsV.gr {w w' : World} {v : Value} {ns : List ByteArray} (h : StrsV w v ns) (k : Gr w w') : StrsV w' v ns := by
  obtain ⟨⟨p, cap, rfl, hc, hh⟩⟩ := h
  refine ⟨p, cap, rfl, hc, ?_⟩
  rcases hh with h | ⟨b, h1, h2⟩
  · exact .inl h
  · exact .inr ⟨b, h1, fun i s hs => k.cell (h2 i s hs)⟩
theorem strs_of_owns {w : World} {base : Nat} {v : Value} {ns : List ByteArray} {T : TypeId} {n : Nat} (h : w.ownsRow base T 1 v n (strsV ns)) (hn : ns.length = n) : StrsV w v ns := by
  have hh := h
  subst hn
  rcases h.2 with ⟨rfl, h0'⟩ | ⟨g, cap, cur, rfl, hb, hcur, hle, hmx, h5, h6⟩
  · have : ns.length = 0 := by simpa using h0'
    rw [List.length_eq_zero_iff] at this
    subst this
    exact ⟨none, 0, rfl, ⟨Nat.le_refl _, by unfold maxLen; omega⟩, .inl ⟨rfl, rfl, rfl⟩⟩
  · refine ⟨_, cap, rfl, ⟨by omega, by omega⟩, .inr ⟨g, rfl, fun i s hs => ?_⟩⟩
    have e : ∀ t, (⟨g, 0, none⟩ : Addr).add t = ⟨g, t, none⟩ := fun t => by unfold Addr.add; split <;> simp_all
    have := hh.cells (g := g) rfl i (.string s) (by simp [strsV, hs])
    rwa [e] at this
/-- who goes on -/
def thru (xs : List RowR) (m : Int) : List ByteArray := goOn m (srtP (pls ((fine xs).map fun x => x.nm) (ranksL (fine xs))))
theorem ranksL_len (xs : List RowR) : (ranksL xs).length = xs.length := by unfold ranksL; simp
/-- placed, whatever the names and ranks: what the loop behind it asks -/
theorem fine_le (xs : List RowR) : (fine xs).length ≤ xs.length := List.length_filter_le _ _
set_option maxHeartbeats 1000000 in
set_option maxRecDepth 100000 in
/-- the three calls in the midst of Through -/
theorem mid_c (hS : SortFOK) (I : InsOK) (ys : List RowR) (base : Nat) {v : Value} {w : World} (h : w.ownsRow base 34 3 v ys.length (rowCs ys)) (h1 : ys.length < 20) (hSt : StatesIn w)
    (hv : ∀ (i : Nat) (x : RowR), ys[i]? = some x → IntsV w x.u x.xs ∧ x.xs.length ≤ 1000) :
    ∃ (p : Option Addr) (cap : Nat), v = .slice p ys.length cap ∧
    Calls Tryz.prog 25 #[v] w fun e w1 => ∃ (p1 : Option Addr) (cap1 : Nat), e = .returned (.slice p1 ys.length cap1) ∧ Gr w w1 ∧
      ∀ w1', Gr w1 w1' → Calls Tryz.prog 19 #[v, .func (.func 20) #[] #[]] w1' fun e w2 => ∃ (p2 : Option Addr) (cap2 : Nat), e = .returned (.slice p2 ys.length cap2) ∧ Gr w1' w2 ∧
        ∀ w2', Gr w2 w2' → Calls Tryz.prog 24 #[.slice p1 ys.length cap1, .slice p2 ys.length cap2] w2' fun e w3 => ∃ v3, e = .returned v3 ∧ PlsV w3 v3 (srtP (pls (ys.map fun x => x.nm) (ranksL ys))) ∧ Gr w2' w3 := by
  by_cases h0 : 0 < ys.length
  · obtain ⟨g, cap, rfl, hbg, hc1, hc2, hr⟩ := rows_of_owns h h0 hv
    refine ⟨_, cap, rfl, ?_⟩
    refine (climbers_pos ys ys.length g 0 cap w rfl (by omega) hr).mono ?_
    rintro e w1 ⟨v1, rfl, hown1, g1⟩
    rcases hown1.2 with ⟨rfl, h0'⟩ | ⟨g1', cap1, cur1, rfl, hb1, hcur1, hle1, hmx1, h51, h61⟩
    · omega
    · refine ⟨_, cap1, rfl, g1, fun w1' gw1 => ?_⟩
      have hg1 := g1.trans gw1
      refine (ranks_pos hS ys ys.length g 0 cap w1' rfl h0 (by omega) (hSt.gr hg1) (fun i x hx => (hr i x hx).gr hg1)).mono ?_
      rintro e w2 ⟨R, rfl, hR, hRc, g2⟩
      refine ⟨_, _, rfl, g2, fun w2' gw2 => ?_⟩
      have hg2 := (gw1.trans g2).trans gw2
      refine placed_pos I (ys.map fun x => x.nm) (ranksL ys) ys.length g1' cap1 R ys.length w2' (by simp) (ranksL_len ys) h0 h1 (fun i s hs => ?_) (fun i r hr' => ?_)
      · have e : ∀ t, (⟨g1', 0, none⟩ : Addr).add t = ⟨g1', t, none⟩ := fun t => by unfold Addr.add; split <;> simp_all
        have := hown1.cells (g := g1') rfl i (.string s) (by simp only [List.getElem?_map] at hs; simp only [nmsV, List.getElem?_map]; cases hh : ys[i]? with
          | none => rw [hh] at hs; cases hs
          | some x => rw [hh] at hs; cases hs; rfl)
        rw [e] at this
        exact hg2.cell this
      · exact gw2.cell (cell_ints hRc hr')
  · have hz : ys.length = 0 := by omega
    have hnil : ys = [] := List.length_eq_zero_iff.1 hz
    subst hnil
    rcases h.2 with ⟨rfl, h0'⟩ | ⟨g, cap, cur, rfl, hb, hcur, hle, hmx, h5, h6⟩
    all_goals
      refine ⟨_, _, rfl, ?_⟩
      refine (climbers_0 _ _ w).mono ?_
      rintro e w1 ⟨rfl, rfl⟩
      refine ⟨none, 0, rfl, Gr.refl _, fun w1' gw1 => ?_⟩
      refine (ranks_0 _ _ w1').mono ?_
      rintro e w2 ⟨q, c2, rfl, g2⟩
      refine ⟨q, c2, rfl, g2, fun w2' gw2 => ?_⟩
      refine (placed_0 _ _ _ _ w2').mono ?_
      rintro e w3 ⟨rfl, g3⟩
      have hl : (srtP (pls (([] : List RowR).map fun x => x.nm) (ranksL []))).length = 0 := by rw [(srtP_spec _).2.1]; rfl
      exact ⟨_, rfl, ⟨none, 0, by rw [hl], fun h => absurd h (by omega)⟩, g3⟩
end Go.Proofs.YtebnbjaaogfikaaGreatDoor
namespace Go.Proofs.YtebnbjaaogfikaaGreatDoor
open Go.RowKit Go.Lib
set_option linter.unusedSimpArgs false
set_option linter.unusedVariables false
/-- whether a name is among names -/
def hasS (ns : List ByteArray) (s : ByteArray) : Bool := ns.any fun t => s.toList == t.toList
/-- the first place of a name, from a place on -/
def findS (s : ByteArray) (ns : List ByteArray) : Nat → Nat → Int
  | 0, _ => -1
  | k + 1, i => match ns[i]? with
    | some t => if s.toList == t.toList then i else findS s ns k (i + 1)
    | none => -1
theorem findS_step {s : ByteArray} {ns : List ByteArray} {i n : Nat} {t : ByteArray} (h : ns[i]? = some t) (hi : i < n) : findS s ns (n - i) i = if s.toList == t.toList then (i : Int) else findS s ns (n - (i + 1)) (i + 1) := by
  obtain ⟨k, hk⟩ : ∃ k, n - i = k + 1 := ⟨n - i - 1, by omega⟩
  rw [hk, show n - (i + 1) = k by omega]
  simp only [findS, h]
theorem findS_any (s : ByteArray) (ns : List ByteArray) : ∀ (k i : Nat), i + k ≤ ns.length → decide (0 ≤ findS s ns k i) = hasS ((ns.drop i).take k) s
  | 0, i, h => by simp [findS, hasS]
  | k + 1, i, h => by
    have hi : i < ns.length := by omega
    have ih := findS_any s ns k (i + 1) (by omega)
    unfold hasS at *
    rw [List.drop_eq_getElem_cons hi, List.take_succ_cons, List.any_cons, ← ih]
    simp only [findS, List.getElem?_eq_getElem hi]
    cases s.toList == ns[i].toList <;> simp
set_option maxHeartbeats 1000000 in
set_option maxRecDepth 100000 in
theorem indexS_pos (ns : List ByteArray) (n b off cap : Nat) (s : ByteArray) (w : World) (hn : n ≤ ns.length) (h1 : n ≤ 1000) (hc : ∀ i t, ns[i]? = some t → w.cell? ⟨b, off + i, none⟩ = some (.string t)) :
    Calls Tryz.prog 67 #[.slice (some ⟨b, off, none⟩) n cap, .string s] w fun e w' => e = .returned (.int .i64 (findS s ns n 0)) ∧ w = w' := by
  have HC := Lib.hid hc
  have HX := Lib.hid (fun k (h : k < n) => (show ∃ x, ns[k]? = some x from ⟨ns[k]'(by omega), List.getElem?_eq_getElem _⟩))
  have HS := Lib.hid (fun i t (h : ns[i]? = some t) (hi : i < n) => findS_step (s := s) h hi)
  have HE : Hid (findS s ns 0 n = -1) := rfl
  clear hc hn
  generalize findS s ns = F at *
  go_enter Tryz.func67, Tryz.ntmps67
  go_wp2_with fail
  go_loopg [8] n (fun gk s8 wr => ∃ i : Nat, s8 = .int .i64 i ∧ gk + i = n ∧ wr = w ∧ Hid (F (n - i) i = F n 0))
  case atStart => exact ⟨0, rfl, by omega, rfl, by simp [Hid]⟩
  case round =>
    obtain ⟨i, rfl, hi, rfl, HF⟩ := hrel
    by_cases hlt : i < n
    · obtain ⟨t, ht⟩ := HX.out i hlt
      have c0 := HC.out i t ht
      have hst := HS.out i t ht hlt
      have hi2 : (i : Int) < n := by omega
      cases hh : (s.toList == t.toList)
      · rw [hh] at hst
        have HST := Lib.hid hst
        have hne : ¬ s.toList = t.toList := by simpa using hh
        clear hst ht
        go_wp2_with fail
        go_roundg (gk - 1)
        case measure => omega
        case rel => exact ⟨i + 1, by go_num, by omega, rfl, by have := HF.out; rw [HST.out] at this; simpa [Hid] using this⟩
      · rw [hh] at hst
        have HST := Lib.hid hst
        have hne : s.toList = t.toList := by simpa using hh
        clear hst ht
        go_wp2_with fail
        go_ret
        have q : F n 0 = i := by have := HF.out; rw [HST.out] at this; simpa using this.symm
        exact ⟨by rw [q]; rfl, rfl⟩
    · obtain rfl : i = n := by omega
      have := HF.out
      rw [Nat.sub_self, HE.out] at this
      have HT := Lib.hid this
      clear this
      go_wp2_with fail
      go_ret
      exact ⟨by rw [← HT.out]; rfl, rfl⟩
theorem containsS_pos (ns : List ByteArray) (n b off cap : Nat) (s : ByteArray) (w : World) (hn : n ≤ ns.length) (h1 : n ≤ 1000) (hc : ∀ i t, ns[i]? = some t → w.cell? ⟨b, off + i, none⟩ = some (.string t)) :
    Calls Tryz.prog 31 #[.slice (some ⟨b, off, none⟩) n cap, .string s] w fun e w' => e = .returned (.bool (hasS (ns.take n) s)) ∧ w = w' := by
  have HI := Lib.hid (indexS_pos ns n b off cap s w hn h1 hc)
  have HE : Hid (hasS (ns.take n) s = decide (0 ≤ findS s ns n 0)) := by
    unfold Hid; rw [findS_any s ns n 0 (by omega), List.drop_zero]
  clear hc
  generalize findS s ns n 0 = z at *
  go_enter Tryz.func31, Tryz.ntmps31
  go_wp2_with (refine HI.out.mono ?_; rintro e w4 ⟨rfl, rfl⟩)
  go_ret
  exact ⟨by rw [HE.out]; rfl, rfl⟩
theorem indexS_nil (p : Option Addr) (cap : Nat) (s : ByteArray) (w : World) :
    Calls Tryz.prog 67 #[.slice p 0 cap, .string s] w fun e w' => e = .returned (.int .i64 (-1)) ∧ w = w' := by
  go_enter Tryz.func67, Tryz.ntmps67
  go_wp2_with fail
  refine wp_loop_rounds 2 ?_
  rw [rounds_succ]
  go_wp2_with fail
  go_ret
  exact ⟨rfl, rfl⟩
theorem containsS_nil (p : Option Addr) (cap : Nat) (s : ByteArray) (w : World) :
    Calls Tryz.prog 31 #[.slice p 0 cap, .string s] w fun e w' => e = .returned (.bool false) ∧ w = w' := by
  have HI := Lib.hid (indexS_nil p cap s w)
  go_enter Tryz.func31, Tryz.ntmps31
  go_wp2_with (refine HI.out.mono ?_; rintro e w4 ⟨rfl, rfl⟩)
  go_ret
  exact ⟨rfl, rfl⟩
theorem hasS_succ {ns : List ByteArray} {k : Nat} {t : ByteArray} (h : ns[k]? = some t) (s : ByteArray) : hasS (ns.take (k + 1)) s = (hasS (ns.take k) s || (s.toList == t.toList)) := by
  rw [List.take_add_one, h]; unfold hasS; simp
theorem hasS_le {ns : List ByteArray} {s : ByteArray} {j n : Nat} (hj : j ≤ n) (h : hasS (ns.take j) s = true) : hasS (ns.take n) s = true := by
  unfold hasS at *
  rw [List.any_eq_true] at *
  obtain ⟨t, ht, he⟩ := h
  exact ⟨t, (List.take_subset_take_left ns hj) ht, he⟩
end Go.Proofs.YtebnbjaaogfikaaGreatDoor
namespace Go.Proofs.YtebnbjaaogfikaaGreatDoor
open Go.RowKit Go.Lib
set_option linter.unusedSimpArgs false
set_option linter.unusedVariables false
theorem sameH_c (y : RowR) (B : Nat) (nm : ByteArray) (p : Option Addr) (n cap : Nat) (hu : y.u = .slice p n cap) (w : World) (h : w.cell? ⟨B, 0, none⟩ = some (.string nm)) :
    Calls Tryz.prog 92 #[resV y.nm y.st y.u, .pointer (some ⟨B, 0, none⟩)] w fun e w' => e = .returned (.bool (y.nm.toList == nm.toList)) ∧ Gr w w' := by
  rw [hu]
  unfold resV
  obtain ⟨W, hW, g, a0, a1, a2⟩ := box3 w (.string y.nm) (.string y.st) (.slice p n cap) 34
  have hB := g.cell h
  rw [← hW] at hB
  have HG := Lib.hid (show Gr w (w.alloc (.cells #[.string y.nm, .string y.st, .slice p n cap] 34)) from (Gr.refl w).alloc _)
  clear hW h g a0 a1 a2 hu
  go_enter Tryz.func92, Tryz.ntmps92
  go_wp2_with fail
  go_ret
  exact ⟨rfl, HG.out⟩
set_option maxHeartbeats 1000000 in
set_option maxRecDepth 100000 in
theorem indexH_pos (xs : List RowR) (n b off cap B : Nat) (nm : ByteArray) (w : World) (hn : n ≤ xs.length) (h1 : n ≤ 1000) (hc : ∀ i x, xs[i]? = some x → RowAt w b (off + i * 3) x) (hB : w.cell? ⟨B, 0, none⟩ = some (.string nm)) :
    Calls Tryz.prog 37 #[.slice (some ⟨b, off, none⟩) n cap, .func (.func 92) #[] #[.pointer (some ⟨B, 0, none⟩)]] w fun e w' => e = .returned (.int .i64 (firstP (isNm nm) xs n 0)) ∧ Gr w w' := by
  have HC := Lib.hid hc
  have HN := Lib.hid hn
  have HE : Hid (firstP (isNm nm) xs n 0 = firstP (isNm nm) xs (n - 0) 0) := rfl
  clear hc hn
  go_enter Tryz.func37, Tryz.ntmps37
  go_wp2_with fail
  go_loopg [8] n (fun gk s8 wr => ∃ i : Nat, s8 = .int .i64 i ∧ gk + i = n ∧ Gr w wr ∧ Hid (firstP (isNm nm) xs (n - i) i = firstP (isNm nm) xs (n - 0) 0))
  case atStart => exact ⟨0, rfl, by omega, Gr.refl _, rfl⟩
  case round =>
    obtain ⟨i, rfl, hi, hg, HF⟩ := hrel
    by_cases hlt : i < n
    · obtain ⟨x, hx⟩ : ∃ x, xs[i]? = some x := ⟨xs[i]'(by have := HN.out; omega), List.getElem?_eq_getElem _⟩
      obtain ⟨c0, c1, c2, hv, _⟩ := (HC.out i x hx).gr hg
      obtain ⟨⟨p', cap', hu, _⟩⟩ := hv
      have hf := firstP_step (Q := (isNm nm)) hx hlt
      have hi2 : (i : Int) < n := by omega
      have HT := Lib.hid (sameH_c x B nm _ _ _ hu wr (hg.cell hB))
      rw [hu] at c2 HT
      clear hx
      try unfold resV at HT
      have e0 : (x.nm.toList == nm.toList) = (isNm nm) x := rfl
      rw [e0] at HT
      cases e1 : (isNm nm) x
      · rw [e1] at hf HT
        simp only [Bool.false_eq_true, if_false] at hf
        have HF2 := Lib.hid hf
        clear hf e1 e0
        go_wp2_with (refine HT.out.mono ?_; rintro e w4 ⟨rfl, hg2⟩)
        go_roundg (gk - 1)
        case measure => omega
        case rel => exact ⟨i + 1, by go_num, by omega, hg.trans hg2, by unfold Hid; rw [← HF2.out, HF.out]⟩
      · rw [e1] at hf HT
        simp only [if_true] at hf
        have HF2 := Lib.hid hf
        clear hf e1 e0
        go_wp2_with (refine HT.out.mono ?_; rintro e w4 ⟨rfl, hg2⟩)
        go_ret
        exact ⟨by rw [HE.out, ← HF.out, HF2.out]; rfl, hg.trans hg2⟩
    · have HE2 := Lib.hid (firstP_end (Q := (isNm nm)) (xs := xs) (i := i) (n := n) (by omega))
      have hi2 : (n : Int) ≤ i := by omega
      go_wp2_with fail
      go_ret
      exact ⟨by rw [HE.out, ← HF.out, HE2.out]; rfl, hg⟩
theorem containsH_pos (xs : List RowR) (n b off cap B : Nat) (nm : ByteArray) (w : World) (hn : n ≤ xs.length) (h1 : n ≤ 1000) (hc : ∀ i x, xs[i]? = some x → RowAt w b (off + i * 3) x) (hB : w.cell? ⟨B, 0, none⟩ = some (.string nm)) :
    Calls Tryz.prog 43 #[.slice (some ⟨b, off, none⟩) n cap, .func (.func 92) #[] #[.pointer (some ⟨B, 0, none⟩)]] w fun e w' => e = .returned (.bool (dupR xs n nm)) ∧ Gr w w' := by
  have HI := Lib.hid (indexH_pos xs n b off cap B nm w hn h1 hc hB)
  have HE : Hid (dupR xs n nm = decide (0 ≤ firstP (isNm nm) xs n 0)) := by
    unfold Hid dupR
    rw [firstP_any (isNm nm) xs n 0 (by omega), List.drop_zero]
    rfl
  clear hc hB
  generalize firstP (isNm nm) xs n 0 = z at *
  go_enter Tryz.func43, Tryz.ntmps43
  go_wp2_with fail
  refine HI.out.mono ?_
  rintro e w4 ⟨rfl, hg⟩
  go_wp2_with fail
  go_ret
  exact ⟨by rw [HE.out]; rfl, hg⟩
theorem hasResult_pos (xs : List RowR) (n b off cap : Nat) (nm : ByteArray) (w : World) (hn : n ≤ xs.length) (h1 : n ≤ 1000) (hc : ∀ i x, xs[i]? = some x → RowAt w b (off + i * 3) x) :
    Calls Tryz.prog 65 #[.slice (some ⟨b, off, none⟩) n cap, .string nm] w fun e w' => e = .returned (.bool (dupR xs n nm)) ∧ Gr w w' := by
  have HC := Lib.hid (fun B W (g : Gr w W) h => containsH_pos xs n b off cap B nm W hn h1 (fun i x hx => (hc i x hx).gr g) h)
  obtain ⟨W, hW, g, a0⟩ := box1 w (.string nm) 9
  have HW := Lib.hid hW
  generalize dupR xs n nm = d at *
  clear hW hc
  go_enter Tryz.func65, Tryz.ntmps65
  go_wp2_with fail
  rw [HW.out]
  generalize w.heap.size = B at *
  clear HW
  refine (HC.out B W g a0).mono ?_
  rintro e w4 ⟨rfl, hg⟩
  go_wp2_with fail
  go_ret
  exact ⟨rfl, g.trans hg⟩
theorem valued_c (c s : ByteArray) (v : Value) (hv : ∃ p n cap, v = .slice p n cap) (w : World) :
    Calls Tryz.prog 113 #[.agg #[.string c, .string s, v]] w fun e w' => e = .returned (.bool s.toList.isEmpty) ∧ Gr w w' := by
  obtain ⟨p, n, cap, rfl⟩ := hv
  cases h : s.toList.isEmpty
  all_goals
    have h2 := h
    have HE := Lib.hid h2
    go_enter Tryz.func113, Tryz.ntmps113
    go_wp2_with fail
    go_ret
    exact ⟨rfl, (Gr.refl w).alloc _⟩
set_option maxHeartbeats 1000000 in
set_option maxRecDepth 100000 in
theorem indexW_pos (xs : List RowR) (n b off cap : Nat) (w : World) (hn : n ≤ xs.length) (h1 : n ≤ 1000) (hc : ∀ i x, xs[i]? = some x → RowAt w b (off + i * 3) x) :
    Calls Tryz.prog 37 #[.slice (some ⟨b, off, none⟩) n cap, .func (.func 113) #[] #[]] w fun e w' => e = .returned (.int .i64 (firstP hasV xs n 0)) ∧ Gr w w' := by
  have HC := Lib.hid hc
  have HN := Lib.hid hn
  have HE : Hid (firstP hasV xs n 0 = firstP hasV xs (n - 0) 0) := rfl
  clear hc hn
  go_enter Tryz.func37, Tryz.ntmps37
  go_wp2_with fail
  go_loopg [8] n (fun gk s8 wr => ∃ i : Nat, s8 = .int .i64 i ∧ gk + i = n ∧ Gr w wr ∧ Hid (firstP hasV xs (n - i) i = firstP hasV xs (n - 0) 0))
  case atStart => exact ⟨0, rfl, by omega, Gr.refl _, rfl⟩
  case round =>
    obtain ⟨i, rfl, hi, hg, HF⟩ := hrel
    by_cases hlt : i < n
    · obtain ⟨x, hx⟩ : ∃ x, xs[i]? = some x := ⟨xs[i]'(by have := HN.out; omega), List.getElem?_eq_getElem _⟩
      obtain ⟨c0, c1, c2, hv, _⟩ := (HC.out i x hx).gr hg
      obtain ⟨⟨p', cap', hu, _⟩⟩ := hv
      have hf := firstP_step (Q := hasV) hx hlt
      have hi2 : (i : Int) < n := by omega
      have HT := Lib.hid (valued_c x.nm x.st x.u ⟨_, _, _, hu⟩ wr)
      rw [hu] at c2 HT
      clear hx
      try unfold resV at HT
      have e0 : x.st.toList.isEmpty = hasV x := rfl
      rw [e0] at HT
      cases e1 : hasV x
      · rw [e1] at hf HT
        simp only [Bool.false_eq_true, if_false] at hf
        have HF2 := Lib.hid hf
        clear hf e1 e0
        go_wp2_with (refine HT.out.mono ?_; rintro e w4 ⟨rfl, hg2⟩)
        go_roundg (gk - 1)
        case measure => omega
        case rel => exact ⟨i + 1, by go_num, by omega, hg.trans hg2, by unfold Hid; rw [← HF2.out, HF.out]⟩
      · rw [e1] at hf HT
        simp only [if_true] at hf
        have HF2 := Lib.hid hf
        clear hf e1 e0
        go_wp2_with (refine HT.out.mono ?_; rintro e w4 ⟨rfl, hg2⟩)
        go_ret
        exact ⟨by rw [HE.out, ← HF.out, HF2.out]; rfl, hg.trans hg2⟩
    · have HE2 := Lib.hid (firstP_end (Q := hasV) (xs := xs) (i := i) (n := n) (by omega))
      have hi2 : (n : Int) ≤ i := by omega
      go_wp2_with fail
      go_ret
      exact ⟨by rw [HE.out, ← HF.out, HE2.out]; rfl, hg⟩
end Go.Proofs.YtebnbjaaogfikaaGreatDoor
namespace Go.Proofs.YtebnbjaaogfikaaGreatDoor
open Go.RowKit Go.Lib
set_option linter.unusedSimpArgs false
set_option linter.unusedVariables false
set_option maxHeartbeats 1000000 in
set_option maxRecDepth 100000 in
theorem grade_c (s : ByteArray) (w : World) :
    Calls Tryz.prog 71 #[.string s] w fun e w' => e = .returned (.int .i64 (gradeZ s.toList)) ∧ w = w' := by
  have HG : ∀ z, gradeZ s.toList = z → Hid (gradeZ s.toList = z) := fun z h => h
  rcases grade_of s.toList with h | h | h | h | ⟨h0, h1, h2, h3⟩
  · replace HG := HG 0 (by rw [h]; rfl)
    go_enter Tryz.func71, Tryz.ntmps71
    go_wp2_with fail
    go_ret
    exact ⟨by rw [HG.out]; rfl, rfl⟩
  · replace HG := HG 1 (by rw [h]; rfl)
    go_enter Tryz.func71, Tryz.ntmps71
    go_wp2_with fail
    go_ret
    exact ⟨by rw [HG.out]; rfl, rfl⟩
  · replace HG := HG 2 (by rw [h]; rfl)
    go_enter Tryz.func71, Tryz.ntmps71
    go_wp2_with fail
    go_ret
    exact ⟨by rw [HG.out]; rfl, rfl⟩
  · replace HG := HG 3 (by rw [h]; rfl)
    go_enter Tryz.func71, Tryz.ntmps71
    go_wp2_with fail
    go_ret
    exact ⟨by rw [HG.out]; rfl, rfl⟩
  · replace HG := HG (-1) (gradeZ_other h0 h1 h2 h3)
    go_enter Tryz.func71, Tryz.ntmps71
    go_wp2_with fail
    go_ret
    exact ⟨by rw [HG.out]; rfl, rfl⟩
end Go.Proofs.YtebnbjaaogfikaaGreatDoor
