/- Archives (chapter 10): marks: copied, few, compared. -/
import Derived.Test.YtnihclhhbegjhaaGreatDoorOvF
import Derived.Deep.CutRange
namespace Go.Proofs.YtnihclhhbegjhaaGreatDoor
open Go.RowKit Go.Lib
set_option linter.unusedSimpArgs false
set_option linter.unusedVariables false
structure MkR where
  de : ByteArray
  nu : Int
def mkC (r : MkR) : List Value := [.string r.de, .int .i64 r.nu]
def mkCs (l : List MkR) : List Value := l.flatMap mkC
theorem mkCs_add (l : List MkR) (r : MkR) : mkCs (l ++ [r]) = mkCs l ++ mkC r := by simp [mkCs]
theorem mkCs_at {xs : List MkR} {i : Nat} {x : MkR} (h : xs[i]? = some x) (j : Nat) (hj : j < 2) : (mkCs xs)[i * 2 + j]? = (mkC x)[j]? := by
  induction xs generalizing i with
  | nil => simp at h
  | cons y ys ih =>
    have e : mkCs (y :: ys) = mkC y ++ mkCs ys := rfl
    rw [e]
    cases i with
    | zero =>
      simp only [List.getElem?_cons_zero, Option.some.injEq] at h
      subst h
      rw [show 0 * 2 + j = j by omega, List.getElem?_append_left (by simp [mkC]; omega)]
    | succ i =>
      rw [List.getElem?_append_right (by simp [mkC]; omega)]
      have := ih (i := i) (by simpa using h)
      rw [← this]
      congr 1
      simp [mkC]; omega
structure MkS (w : World) (q : Option Addr) (l : List MkR) : Prop where
  mk' ::
  out : 0 < l.length → ∃ b off, q = some ⟨b, off, none⟩ ∧ ∀ (i : Nat) (r : MkR), l[i]? = some r → w.cell? ⟨b, off + i * 2, none⟩ = some (.string r.de) ∧ w.cell? ⟨b, off + i * 2 + 1, none⟩ = some (.int .i64 r.nu)
theorem MkS.gr {w w' : World} {q : Option Addr} {l : List MkR} (h : MkS w q l) (k : Gr w w') : MkS w' q l := ⟨fun h0 => by
  obtain ⟨g, off, e, hc⟩ := h.out h0
  exact ⟨g, off, e, fun i r hr => ⟨k.cell (hc i r hr).1, k.cell (hc i r hr).2⟩⟩⟩
theorem MkS.of_own {w : World} {b n : Nat} {T : TypeId} {q : Option Addr} {c : Nat} {l : List MkR} (h : w.ownsRow b T 2 (.slice q n c) n (mkCs l)) (hn : l.length = n) : MkS w q l := ⟨fun h0 => by
  rcases h.2 with ⟨e, hz⟩ | ⟨g, cap, cur, e, _, _, hle, hmx, _, _⟩
  · omega
  · simp only [Value.slice.injEq] at e
    obtain ⟨rfl, _, rfl⟩ := e
    refine ⟨g, 0, rfl, fun i r hr => ?_⟩
    have hi := (List.getElem?_eq_some_iff.1 hr).1
    have c0 := h.cellAt (i * 2 + 0) (by omega)
    have c1 := h.cellAt (i * 2 + 1) (by omega)
    rw [mkCs_at hr _ (by omega)] at c0 c1
    rw [Nat.zero_add]
    exact ⟨c0, c1⟩⟩
theorem cell_twoM (w : World) (a b : Value) (T : TypeId) : ∀ (j : Nat) (u : Value), [a, b][j]? = some u → (w.alloc (.cells #[a, b] T)).cell? ((⟨w.heap.size, 0, none⟩ : Addr).add j) = some u := by
  intro j u h
  rw [addr_add]
  match j, h with
  | 0, h => simp at h; subst h; exact cell_new w #[a, b] T 0 (by simp)
  | 1, h => simp at h; subst h; exact cell_new w #[a, b] T 1 (by simp)
  | j + 2, h => simp at h
theorem infoMkR : (Tryz.prog.info? 67).map (fun i => (i.zero, i.size, i.bytes)) = some (some (.agg #[.string ⟨#[]⟩, .int .i64 0]), 2, 24) := by kernel_rfl
theorem infoMkP : (Tryz.prog.info? 84).map (fun i => (i.zero, i.size, i.bytes)) = some (some (.agg #[.string ⟨#[]⟩, .int .i64 0]), 2, 24) := by kernel_rfl
theorem one_twoM (a : ByteArray) (b : Int) : ∀ u ∈ ([.string a, .int .i64 b] : List Value), u.oneCell' = true := by
  intro u hu
  simp at hu
  rcases hu with rfl | rfl <;> rfl
set_option maxHeartbeats 4000000 in
set_option maxRecDepth 100000 in
theorem marks_c {p : Option Addr} {cap n : Nat} {l : List MkR} {w : World} (hr : MkS w p l) (hn : n = l.length) (hb : n * 24 ≤ 140737488355328) :
    Calls Tryz.prog 31 #[.slice p n cap] w fun e w' => ∃ q c, e = .returned (.slice q n c) ∧ (n ≤ c ∧ c ≤ maxLen) ∧ MkS w' q l ∧ Gr w w' := by
  obtain ⟨i0, hi, hz0, hz1, hz2⟩ := info_parts infoMkR
  have HN := Lib.hid hn
  have HR := Lib.hid hr.out
  have hnm : n ≤ 5864062014805 := by omega
  clear hr hn
  go_enter Tryz.func31, Tryz.ntmps31
  go_wp2_with fail
  go_loopg [3, 8] n (fun gk s3 s8 wr => ∃ i : Nat, s8 = .int .i64 (i : Int) ∧ gk + i = n ∧ wr.ownsRow w.heap.size 67 2 s3 i (mkCs (l.take i)) ∧ Hid (Gr w wr))
  case atStart => exact ⟨0, rfl, by omega, World.ownsRow_nil _ _ _ _, Gr.refl _⟩
  case round =>
    obtain ⟨i, rfl, hgk, hown, HG⟩ := hrel
    have hsz := HG.out.size
    by_cases hlt : i < n
    · obtain ⟨x, hx⟩ : ∃ x, l[i]? = some x := ⟨l[i]'(by have := HN.out; omega), List.getElem?_eq_getElem _⟩
      obtain ⟨b, off, rfl, hc⟩ := HR.out (by have := HN.out; omega)
      obtain ⟨a0, a1⟩ := hc i x hx
      replace a0 := HG.out.cell a0
      replace a1 := HG.out.cell a1
      have hlt2 : (i : Int) < (n : Int) := by omega
      have HT : Hid (mkCs (l.take (i + 1)) = mkCs (l.take i) ++ mkC x) := by rw [Hid, List.take_add_one, hx]; exact mkCs_add _ _
      obtain ⟨xde, xnu⟩ := x
      simp only at a0 a1
      have g1 := (Gr.refl wr).alloc (.cells #[.string xde, .int .i64 xnu] 84)
      obtain ⟨V, hV, gV, q0, q1⟩ := box2v wr (.string xde) (.int .i64 xnu) 84
      have HV := Lib.hid hV
      have hownV := own_kept hown gV
      have HGV : Hid (Gr w V) := HG.out.trans gV
      have hszV := HGV.out.size
      clear hx hc g1 hV
      go_upto_region 5 with fail
      rw [HV.out]
      clear gV a0 a1
      generalize wr.heap.size = By at *
      go_wp2_with (at_builtin; refine wpList_append_own _ rfl _ _ 58 rfl w.heap.size 67 i0 (.agg #[.string ⟨#[]⟩, .int .i64 0]) 2 24 Tryz.underlying58 hi hz0 hz1 hz2 rfl (by decide) _ _ _ rfl (own_kept hownV ((Gr.refl V).alloc _)) ⟨V.heap.size, 0, none⟩ 1 1 [.string xde, .int .i64 xnu] rfl rfl (cell_twoM _ _ _ _) (one_twoM _ _) (by unfold maxLen; omega) (by omega) (by simp; omega) ?_; intro v1 w1 hown1 hgrow1 hnil)
      have HGR : Hid (Gr w w1) := Below.grown (HGV.out.alloc _) hgrow1 (by simp; omega) (fun q hq => (own_in hownV hq).2)
      have HO1 := Lib.hid hown1
      clear hown1 hgrow1 hown hownV hnil
      go_wp2_with fail
      go_roundg (gk - 1)
      case measure => omega
      case rel => exact ⟨i + 1, by go_num, by omega, by have := HO1.out; rw [HT.out]; exact this, HGR⟩
    · obtain rfl : n = i := by omega
      have hlt2 : ¬ (n : Int) < (n : Int) := by omega
      obtain ⟨q, c, rfl, hc1, hc2⟩ := own_shape hown
      have HV : Hid (MkS wr q l) := MkS.of_own (by have := hown; rwa [List.take_of_length_le (by have := HN.out; omega)] at this) HN.out.symm
      clear hown
      go_wp2_with fail
      go_ret
      exact ⟨_, _, rfl, ⟨hc1, hc2⟩, HV.out, HG.out⟩
end Go.Proofs.YtnihclhhbegjhaaGreatDoor
