/- Brackets: how a race begins; names of seeds. -/
import Derived.Test.YthfmgficbnmmnaaGreatDoorGNames
import Derived.RangeFuncNested
import Derived.RangeFuncBound
import Derived.RangeFuncCalls
import Derived.RangeFuncLeaves
import Derived.RangeFuncFrom
import Derived.RangeFuncWrites
import Derived.Shelf.Abstract
import Derived.Shelf.RegionOpen
import Derived.OwnWalkIn
import Derived.TacticsInMore
import Derived.LoopNIn
import Derived.LoopIn
import Derived.Deep.RegionHeld
import Derived.Laws.AppendOwn
namespace Go.Proofs.YthfmgficbnmmnaaGreatDoor
open Go.RowKit Go.Lib
set_option linter.unusedSimpArgs false
set_option linter.unusedVariables false
/-- who wins from the beginning -/
def walkW (a b : ByteArray) : Int := if a.toList = [] then (if b.toList = [] then 3 else 2) else if b.toList = [] then 1 else 0
/-- a race of two names -/
structure RaR where
  a : ByteArray
  b : ByteArray
  w : Int
def raV (r : RaR) : Value := .agg #[.string r.a, .string r.b, .int .i64 r.w]
def raC (r : RaR) : List Value := [.string r.a, .string r.b, .int .i64 r.w]
def raCs (l : List RaR) : List Value := l.flatMap raC
/-- the race of two names at its beginning -/
def raB (a b : ByteArray) : RaR := ⟨a, b, walkW a b⟩
set_option maxRecDepth 100000 in
theorem walk_c (a b : ByteArray) (w : World) : Calls Tryz.prog 59 #[.string a, .string b] w fun e w' => e = .returned (.int .i64 (walkW a b)) ∧ w = w' := by
  have HE : Hid (walkW a b = if a.toList = [] then (if b.toList = [] then 3 else 2) else if b.toList = [] then 1 else 0) := rfl
  have HA : (a.toList = [] ∧ a.toList.isEmpty = true) ∨ (¬ a.toList = [] ∧ a.toList.isEmpty = false) := by cases a.toList <;> simp
  have HB : (b.toList = [] ∧ b.toList.isEmpty = true) ∨ (¬ b.toList = [] ∧ b.toList.isEmpty = false) := by cases b.toList <;> simp
  rcases HA with ⟨ha, ha2⟩ | ⟨ha, ha2⟩ <;> rcases HB with ⟨hb, hb2⟩ | ⟨hb, hb2⟩
  all_goals
    simp only [ha, hb, if_true, if_false] at HE
    go_enter Tryz.func59, Tryz.ntmps59
    go_wp2_with fail
    go_ret
    exact ⟨by rw [HE.out]; rfl, rfl⟩
set_option maxHeartbeats 4000000 in
set_option maxRecDepth 100000 in
theorem raceOf_c (a b : ByteArray) (w : World) : Calls Tryz.prog 55 #[.string a, .string b] w fun e w' => e = .returned (raV (raB a b)) ∧ Gr w w' := by
  have HE : Hid (walkW a b = if a.toList = [] then (if b.toList = [] then 3 else 2) else if b.toList = [] then 1 else 0) := rfl
  unfold raV raB
  have HA : (a.toList = [] ∧ a.toList.isEmpty = true) ∨ (¬ a.toList = [] ∧ a.toList.isEmpty = false) := by cases a.toList <;> simp
  have HB : (b.toList = [] ∧ b.toList.isEmpty = true) ∨ (¬ b.toList = [] ∧ b.toList.isEmpty = false) := by cases b.toList <;> simp
  rcases HA with ⟨ha, ha2⟩ | ⟨ha, ha2⟩ <;> rcases HB with ⟨hb, hb2⟩ | ⟨hb, hb2⟩
  all_goals
    simp only [ha, hb, if_true, if_false] at HE
    go_enter Tryz.func55, Tryz.ntmps55
    go_wp2_with fail
    first
      | (obtain ⟨W1, hW1, g1, z0, z1, z2⟩ := box3 w (.string a) (.string b) (.int .i64 3) 55; rw [hW1]; have g2 := (Gr.refl W1).alloc (.cells #[.string a, .string b, .int .i64 3] 55); replace z0 := g2.cell z0; replace z1 := g2.cell z1; replace z2 := g2.cell z2; exact bodyPost_ret (v := .agg #[.string a, .string b, .int .i64 3]) (by simp [results, Tryz.results55, go_sem, z0, z1, z2]) rfl ⟨by rw [HE.out], g1.trans g2⟩)
      | (obtain ⟨W1, hW1, g1, z0, z1, z2⟩ := box3 w (.string a) (.string b) (.int .i64 2) 55; rw [hW1]; have g2 := (Gr.refl W1).alloc (.cells #[.string a, .string b, .int .i64 2] 55); replace z0 := g2.cell z0; replace z1 := g2.cell z1; replace z2 := g2.cell z2; exact bodyPost_ret (v := .agg #[.string a, .string b, .int .i64 2]) (by simp [results, Tryz.results55, go_sem, z0, z1, z2]) rfl ⟨by rw [HE.out], g1.trans g2⟩)
      | (obtain ⟨W1, hW1, g1, z0, z1, z2⟩ := box3 w (.string a) (.string b) (.int .i64 1) 55; rw [hW1]; have g2 := (Gr.refl W1).alloc (.cells #[.string a, .string b, .int .i64 1] 55); replace z0 := g2.cell z0; replace z1 := g2.cell z1; replace z2 := g2.cell z2; exact bodyPost_ret (v := .agg #[.string a, .string b, .int .i64 1]) (by simp [results, Tryz.results55, go_sem, z0, z1, z2]) rfl ⟨by rw [HE.out], g1.trans g2⟩)
      | (obtain ⟨W1, hW1, g1, z0, z1, z2⟩ := box3 w (.string a) (.string b) (.int .i64 0) 55; rw [hW1]; have g2 := (Gr.refl W1).alloc (.cells #[.string a, .string b, .int .i64 0] 55); replace z0 := g2.cell z0; replace z1 := g2.cell z1; replace z2 := g2.cell z2; exact bodyPost_ret (v := .agg #[.string a, .string b, .int .i64 0]) (by simp [results, Tryz.results55, go_sem, z0, z1, z2]) rfl ⟨by rw [HE.out], g1.trans g2⟩)
end Go.Proofs.YthfmgficbnmmnaaGreatDoor
namespace Go.Proofs.YthfmgficbnmmnaaGreatDoor
open Go.RowKit Go.Lib
set_option linter.unusedSimpArgs false
set_option linter.unusedVariables false
theorem raCs_add (l : List RaR) (r : RaR) : raCs (l ++ [r]) = raCs l ++ raC r := by simp [raCs]
theorem raCs_at {xs : List RaR} {i : Nat} {x : RaR} (h : xs[i]? = some x) (j : Nat) (hj : j < 3) : (raCs xs)[i * 3 + j]? = (raC x)[j]? := by
  induction xs generalizing i with
  | nil => simp at h
  | cons y ys ih =>
    have e : raCs (y :: ys) = raC y ++ raCs ys := rfl
    rw [e]
    cases i with
    | zero =>
      simp only [List.getElem?_cons_zero, Option.some.injEq] at h
      subst h
      rw [show 0 * 3 + j = j by omega, List.getElem?_append_left (by simp [raC]; omega)]
    | succ i =>
      rw [List.getElem?_append_right (by simp [raC]; omega)]
      have := ih (i := i) (by simpa using h)
      rw [← this]
      congr 1
      simp [raC]; omega
/-- the slice holds these races -/
structure RaS (w : World) (q : Option Addr) (l : List RaR) : Prop where
  mk' ::
  out : 0 < l.length → ∃ b off, q = some ⟨b, off, none⟩ ∧ ∀ (i : Nat) (r : RaR), l[i]? = some r → w.cell? ⟨b, off + i * 3, none⟩ = some (.string r.a) ∧ w.cell? ⟨b, off + i * 3 + 1, none⟩ = some (.string r.b) ∧ w.cell? ⟨b, off + i * 3 + 2, none⟩ = some (.int .i64 r.w)
theorem RaS.gr {w w' : World} {q : Option Addr} {l : List RaR} (h : RaS w q l) (k : Gr w w') : RaS w' q l := ⟨fun h0 => by
  obtain ⟨g, off, e, hc⟩ := h.out h0
  exact ⟨g, off, e, fun i r hr => ⟨k.cell (hc i r hr).1, k.cell (hc i r hr).2.1, k.cell (hc i r hr).2.2⟩⟩⟩
theorem RaS.of_own {w : World} {b n : Nat} {T : TypeId} {q : Option Addr} {c : Nat} {l : List RaR} (h : w.ownsRow b T 3 (.slice q n c) n (raCs l)) (hn : l.length = n) : RaS w q l := ⟨fun h0 => by
  rcases h.2 with ⟨e, hz⟩ | ⟨g, cap, cur, e, _, _, hle, hmx, _, _⟩
  · omega
  · simp only [Value.slice.injEq] at e
    obtain ⟨rfl, _, rfl⟩ := e
    refine ⟨g, 0, rfl, fun i r hr => ?_⟩
    have hi := (List.getElem?_eq_some_iff.1 hr).1
    have c0 := h.cellAt (i * 3 + 0) (by omega)
    have c1 := h.cellAt (i * 3 + 1) (by omega)
    have c2 := h.cellAt (i * 3 + 2) (by omega)
    rw [raCs_at hr _ (by omega)] at c0 c1 c2
    rw [Nat.zero_add]
    exact ⟨c0, c1, c2⟩⟩
theorem infoRaP : (Tryz.prog.info? 55).map (fun i => (i.zero, i.size, i.bytes)) = some (some (.agg #[.string ⟨#[]⟩, .string ⟨#[]⟩, .int .i64 0]), 3, 40) := by kernel_rfl
theorem infoRaR : (Tryz.prog.info? 91).map (fun i => (i.zero, i.size, i.bytes)) = some (some (.agg #[.string ⟨#[]⟩, .string ⟨#[]⟩, .int .i64 0]), 3, 40) := by kernel_rfl
set_option maxRecDepth 100000 in
/-- one more race, appended -/
theorem step_ra {w : World} {o : Oper} {a : Act} {K : Act → World → Prop} {Q : Exit → Act → World → Prop} (TS T : TypeId) (hu : Tryz.prog.underlying TS = some (.slice T)) (hT : (Tryz.prog.info? T).map (fun i => (i.zero, i.size, i.bytes)) = some (some (.agg #[.string ⟨#[]⟩, .string ⟨#[]⟩, .int .i64 0]), 3, 40))
    (s x : Operand) (ho : o.op = .call { callee := .builtin .append, args := #[s, x], argTypes := #[TS, TS] })
    (base : Nat) (v : Value) (n : Nat) (xs : List Value) (hs : a.eval s = v) (hown : w.ownsRow base T 3 v n xs) (r : RaR) (g c : Nat) (hx : a.eval x = .slice (some ⟨g, 0, none⟩) 1 c)
    (h0 : w.cell? ⟨g, 0, none⟩ = some (.string r.a)) (h1 : w.cell? ⟨g, 1, none⟩ = some (.string r.b)) (h2 : w.cell? ⟨g, 2, none⟩ = some (.int .i64 r.w)) (hn : n ≤ 1000) (hbase : base ≤ w.heap.size)
    (h : ∀ v' w', w'.ownsRow base T 3 v' (n + 1) (xs ++ raC r) → w.grownBy w' v.ownBlock → K (a.put o.dst v') w') : Oper.wp Tryz.prog o a w K Q := by
  obtain ⟨i1, hj, hy0, hy1, hy2⟩ := info_parts hT
  obtain ⟨v', w', hr, e2, e3, _, _⟩ := run_append_own_at (P := Tryz.prog) w base TS o.type T i1 (.agg #[.string ⟨#[]⟩, .string ⟨#[]⟩, .int .i64 0]) 3 40 hu hj hy0 hy1 hy2 rfl (by decide) v n xs hown ⟨g, 0, none⟩ 1 c (raC r) (by simp [raC])
    (fun j u hu => by
      have ea : (⟨g, 0, none⟩ : Addr).add j = ⟨g, j, none⟩ := by unfold Addr.add; split <;> simp_all
      rw [ea]
      unfold raC at hu
      rcases j with _ | _ | _ | j <;> simp at hu <;> subst hu <;> assumption)
    (fun u hu => by unfold raC at hu; simp at hu; rcases hu with rfl | rfl | rfl <;> rfl) (by unfold maxLen; omega) (by omega) hbase
  unfold Oper.wp
  simp [execOp, ho, resolve, invoke, builtin, hs, hx, hr, Result.andThen]
  exact h v' w' e2 e3
/-- names side by side -/
def pairR : List ByteArray → List RaR
  | a :: b :: r => raB a b :: pairR r
  | _ => []
theorem pairR_len : ∀ (n : Nat) (l : List ByteArray), l.length = 2 * n → (pairR l).length = n
  | 0, [], _ => rfl
  | n + 1, a :: b :: r, h => by
    simp only [pairR, List.length_cons] at h ⊢
    rw [pairR_len n r (by omega)]
theorem pairR_take : ∀ (j n : Nat) (l : List ByteArray) (x y : ByteArray), l.length = 2 * n → l[2 * j]? = some x → l[2 * j + 1]? = some y → pairR (l.take (2 * (j + 1))) = pairR (l.take (2 * j)) ++ [raB x y]
  | 0, n, a :: b :: r, x, y, _, hx, hy => by
    simp at hx hy
    subst hx hy
    rfl
  | j + 1, n + 1, a :: b :: r, x, y, hl, hx, hy => by
    simp only [List.length_cons] at hl
    have ih := pairR_take j n r x y (by omega) (by rw [show 2 * (j + 1) = 2 * j + 1 + 1 by omega] at hx; simpa using hx) (by rw [show 2 * (j + 1) + 1 = 2 * j + 1 + 1 + 1 by omega] at hy; simpa using hy)
    rw [show 2 * (j + 1 + 1) = 2 * (j + 1) + 1 + 1 by omega, show 2 * (j + 1) = 2 * j + 1 + 1 by omega]
    simp only [List.take_succ_cons, pairR, List.cons_append]
    rw [show 2 * j + 1 + 1 = 2 * (j + 1) by omega, ih]
  | 0, _, [], x, y, _, hx, _ => by simp at hx
  | 0, _, [a], x, y, _, _, hy => by simp at hy
  | j + 1, _, [], x, y, _, hx, _ => by simp at hx
  | j + 1, _, [a], x, y, hl, _, _ => by simp at hl; omega
  | j + 1, 0, a :: b :: r, x, y, hl, _, _ => by simp at hl
set_option maxHeartbeats 4000000 in
set_option maxRecDepth 100000 in
theorem paired_c (ns : List ByteArray) (v : Value) (N : Nat) (w : World) (hv : StrAts w v ns) (hN : ns.length = 2 * N) (h1 : N ≤ 100) :
    Calls Tryz.prog 92 #[v] w fun e w' => ∃ u, e = .returned u ∧ w'.ownsRow w.heap.size 91 3 u N (raCs (pairR ns)) ∧ Gr w w' := by
  obtain ⟨⟨p, cap, rfl, _, hh⟩⟩ := hv
  obtain ⟨n, hn⟩ : ∃ n, n = ns.length := ⟨_, rfl⟩
  rw [← hn] at hh hN ⊢
  have HH := Lib.hid hh
  have HN := Lib.hid hn
  clear hh hn
  go_enter Tryz.func92, Tryz.ntmps92
  go_wp2_with fail
  go_loopg [3, 4] N (fun gk s3 s4 wr => ∃ j m : Nat, s4 = .int .i64 (m : Int) ∧ m = 2 * j ∧ gk + j = N ∧ wr.ownsRow w.heap.size 91 3 s3 j (raCs (pairR (ns.take (2 * j)))) ∧ Hid (Gr w wr))
  case atStart => exact ⟨0, 0, rfl, rfl, by omega, World.ownsRow_nil _ _ _ _, Gr.refl _⟩
  case round =>
    obtain ⟨j, m0, rfl, hm0, hgk, hown, HG⟩ := hrel
    obtain ⟨m1, hm1⟩ : ∃ m1 : Nat, m1 = m0 + 1 := ⟨_, rfl⟩
    have hNN := HN.out
    have e1 : (m0 : Int) + 1 = (m1 : Int) := by omega
    have wj : IntKind.i64.wrap (m1 : Int) = (m1 : Int) := by rw [IntKind.wrap_i64]; omega
    by_cases hlt : j < N
    · obtain ⟨x, hx⟩ : ∃ x, ns[2 * j]? = some x := ⟨ns[2 * j]'(by omega), List.getElem?_eq_getElem _⟩
      obtain ⟨y, hy⟩ : ∃ y, ns[2 * j + 1]? = some y := ⟨ns[2 * j + 1]'(by omega), List.getElem?_eq_getElem _⟩
      obtain ⟨b, off, rfl, hc⟩ := HH.out (by omega)
      have HC0 := Lib.hid (hc _ x hx).nm
      have HC1 := Lib.hid (hc _ y hy).nm
      rw [show 2 * j = m0 by omega] at HC0
      rw [show 2 * j + 1 = m1 by omega] at HC1
      have cx := Gr.cell HG.out.drew HC0.out
      have cy := Gr.cell HG.out.drew HC1.out
      have l0 : (m0 : Int) < n := by omega
      have l1 : (m1 : Int) < n := by omega
      obtain ⟨m2, hm2⟩ : ∃ m2 : Nat, m2 = m0 + 2 := ⟨_, rfl⟩
      have e2 : (m0 : Int) + 2 = (m2 : Int) := by omega
      have wj2 : IntKind.i64.wrap (m2 : Int) = (m2 : Int) := by rw [IntKind.wrap_i64]; omega
      have HP := Lib.hid (pairR_take j N ns x y (by omega) hx hy)
      have HWK := Lib.hid (fun W => walk_c x y W)
      have HRB : Hid (raB x y = ⟨x, y, walkW x y⟩) := rfl
      generalize walkW x y = ww at *
      have HOV : Hid ((wr.drew.alloc (.cells #[.string x, .string y, .int .i64 ww] 91)).ownsRow w.heap.size 91 3 u3 j (raCs (pairR (ns.take (2 * j))))) := World.ownsRow.alloc (w := wr.drew) hown _
      have HBV : Hid (Gr w (wr.drew.alloc (.cells #[.string x, .string y, .int .i64 ww] 91))) := HG.out.drew.alloc _
      have HSV : Hid (w.heap.size ≤ (wr.drew.alloc (.cells #[.string x, .string y, .int .i64 ww] 91)).heap.size) := HBV.out.size
      have HM0 := Lib.hid hm0
      have HM2 := Lib.hid hm2
      have HNN := Lib.hid hN
      clear hown hx hy hc hNN hm1 hm2 hm0 hN
      go_wp2_with fail
      refine wp_region_held_drew (S := (fun w' => w'.cell? ⟨b, off + m0, none⟩ = some (.string x) ∧ w'.cell? ⟨b, off + m1, none⟩ = some (.string y))) (by kernel_rfl) ⟨cx, cy⟩ (fun hHeld => ?_)
      generalize hVV : wr.drew = V at *
      clear hVV
      refine wpAnyH_take (i := 0) (v := u3) (op_at rfl) (by kernel_rfl) (by kernel_rfl) (by kernel_rfl) (fun _ _ _ h => h) (Or.inl ⟨rfl, fun w hSw => ?_⟩) (by assumption) ?_
      · (try dsimp only at hSw); go_simp; try with_reducible rfl
      (try simp only [Act.put, List.setIfInBounds_toArray, List.set_cons_zero, List.set_cons_succ])
      refine wpAnyH_take (i := 1) (v := (.slice (some ⟨b, off, none⟩) n cap)) (op_at rfl) (by kernel_rfl) (by kernel_rfl) (by kernel_rfl) (fun _ _ _ h => h) (Or.inl ⟨rfl, fun w hSw => ?_⟩) (by assumption) ?_
      · (try dsimp only at hSw); go_simp; try with_reducible rfl
      (try simp only [Act.put, List.setIfInBounds_toArray, List.set_cons_zero, List.set_cons_succ])
      refine wpAnyH_take (i := 2) (v := (.int .i64 (m0 : Int))) (op_at rfl) (by kernel_rfl) (by kernel_rfl) (by kernel_rfl) (fun _ _ _ h => h) (Or.inl ⟨rfl, fun w hSw => ?_⟩) (by assumption) ?_
      · (try dsimp only at hSw); go_simp; try with_reducible rfl
      (try simp only [Act.put, List.setIfInBounds_toArray, List.set_cons_zero, List.set_cons_succ])
      refine wpAnyH_take (i := 3) (v := (.pointer (some ⟨b, off + m0, none⟩))) (op_at rfl) (by kernel_rfl) (by kernel_rfl) (by kernel_rfl) (fun _ _ _ h => h) (Or.inl ⟨rfl, fun w hSw => ?_⟩) (by assumption) ?_
      · (try dsimp only at hSw); go_simp; try with_reducible rfl
      (try simp only [Act.put, List.setIfInBounds_toArray, List.set_cons_zero, List.set_cons_succ])
      refine wpAnyH_take (i := 4) (v := (.string x)) (op_at rfl) (by kernel_rfl) (by kernel_rfl) (by kernel_rfl) (fun _ _ _ h => h) (Or.inl ⟨rfl, fun w hSw => ?_⟩) (by assumption) ?_
      · (try dsimp only at hSw); go_simp; try with_reducible rfl
      (try simp only [Act.put, List.setIfInBounds_toArray, List.set_cons_zero, List.set_cons_succ])
      refine wpAnyH_take (i := 5) (v := (.slice (some ⟨b, off, none⟩) n cap)) (op_at rfl) (by kernel_rfl) (by kernel_rfl) (by kernel_rfl) (fun _ _ _ h => h) (Or.inl ⟨rfl, fun w hSw => ?_⟩) (by assumption) ?_
      · (try dsimp only at hSw); go_simp; try with_reducible rfl
      (try simp only [Act.put, List.setIfInBounds_toArray, List.set_cons_zero, List.set_cons_succ])
      refine wpAnyH_take (i := 6) (v := (.int .i64 (m0 : Int))) (op_at rfl) (by kernel_rfl) (by kernel_rfl) (by kernel_rfl) (fun _ _ _ h => h) (Or.inl ⟨rfl, fun w hSw => ?_⟩) (by assumption) ?_
      · (try dsimp only at hSw); go_simp; try with_reducible rfl
      (try simp only [Act.put, List.setIfInBounds_toArray, List.set_cons_zero, List.set_cons_succ])
      refine wpAnyH_take (i := 7) (v := (.int .i64 (m1 : Int))) (op_at rfl) (by kernel_rfl) (by kernel_rfl) (by kernel_rfl) (fun _ _ _ h => h) (Or.inl ⟨rfl, fun w hSw => ?_⟩) (by assumption) ?_
      · (try dsimp only at hSw); go_simp; try with_reducible rfl
      (try simp only [Act.put, List.setIfInBounds_toArray, List.set_cons_zero, List.set_cons_succ])
      refine wpAnyH_take (i := 8) (v := (.pointer (some ⟨b, off + m1, none⟩))) (op_at rfl) (by kernel_rfl) (by kernel_rfl) (by kernel_rfl) (fun _ _ _ h => h) (Or.inl ⟨rfl, fun w hSw => ?_⟩) (by assumption) ?_
      · (try dsimp only at hSw); go_simp; try with_reducible rfl
      (try simp only [Act.put, List.setIfInBounds_toArray, List.set_cons_zero, List.set_cons_succ])
      refine wpAnyH_take (i := 9) (v := (.string y)) (op_at rfl) (by kernel_rfl) (by kernel_rfl) (by kernel_rfl) (fun _ _ _ h => h) (Or.inl ⟨rfl, fun w hSw => ?_⟩) (by assumption) ?_
      · (try dsimp only at hSw); go_simp; try with_reducible rfl
      (try simp only [Act.put, List.setIfInBounds_toArray, List.set_cons_zero, List.set_cons_succ])
      refine wpAnyH_take (i := 10) (v := (.slice (some ⟨b, off, none⟩) n cap)) (op_at rfl) (by kernel_rfl) (by kernel_rfl) (by kernel_rfl) (fun _ _ _ h => h) (Or.inl ⟨rfl, fun w hSw => ?_⟩) (by assumption) ?_
      · (try dsimp only at hSw); go_simp; try with_reducible rfl
      (try simp only [Act.put, List.setIfInBounds_toArray, List.set_cons_zero, List.set_cons_succ])
      refine wpAnyH_take (i := 11) (v := (.int .i64 (m0 : Int))) (op_at rfl) (by kernel_rfl) (by kernel_rfl) (by kernel_rfl) (fun _ _ _ h => h) (Or.inl ⟨rfl, fun w hSw => ?_⟩) (by assumption) ?_
      · (try dsimp only at hSw); go_simp; try with_reducible rfl
      (try simp only [Act.put, List.setIfInBounds_toArray, List.set_cons_zero, List.set_cons_succ])
      refine wpAnyH_take (i := 12) (v := (.pointer (some ⟨b, off + m0, none⟩))) (op_at rfl) (by kernel_rfl) (by kernel_rfl) (by kernel_rfl) (fun _ _ _ h => h) (Or.inl ⟨rfl, fun w hSw => ?_⟩) (by assumption) ?_
      · (try dsimp only at hSw); go_simp; try with_reducible rfl
      (try simp only [Act.put, List.setIfInBounds_toArray, List.set_cons_zero, List.set_cons_succ])
      refine wpAnyH_take (i := 13) (v := (.string x)) (op_at rfl) (by kernel_rfl) (by kernel_rfl) (by kernel_rfl) (fun _ _ _ h => h) (Or.inl ⟨rfl, fun w hSw => ?_⟩) (by assumption) ?_
      · (try dsimp only at hSw); go_simp; try with_reducible rfl
      (try simp only [Act.put, List.setIfInBounds_toArray, List.set_cons_zero, List.set_cons_succ])
      refine wpAnyH_take (i := 14) (v := (.slice (some ⟨b, off, none⟩) n cap)) (op_at rfl) (by kernel_rfl) (by kernel_rfl) (by kernel_rfl) (fun _ _ _ h => h) (Or.inl ⟨rfl, fun w hSw => ?_⟩) (by assumption) ?_
      · (try dsimp only at hSw); go_simp; try with_reducible rfl
      (try simp only [Act.put, List.setIfInBounds_toArray, List.set_cons_zero, List.set_cons_succ])
      refine wpAnyH_take (i := 15) (v := (.int .i64 (m0 : Int))) (op_at rfl) (by kernel_rfl) (by kernel_rfl) (by kernel_rfl) (fun _ _ _ h => h) (Or.inl ⟨rfl, fun w hSw => ?_⟩) (by assumption) ?_
      · (try dsimp only at hSw); go_simp; try with_reducible rfl
      (try simp only [Act.put, List.setIfInBounds_toArray, List.set_cons_zero, List.set_cons_succ])
      refine wpAnyH_take (i := 16) (v := (.int .i64 (m1 : Int))) (op_at rfl) (by kernel_rfl) (by kernel_rfl) (by kernel_rfl) (fun _ _ _ h => h) (Or.inl ⟨rfl, fun w hSw => ?_⟩) (by assumption) ?_
      · (try dsimp only at hSw); go_simp; try with_reducible rfl
      (try simp only [Act.put, List.setIfInBounds_toArray, List.set_cons_zero, List.set_cons_succ])
      refine wpAnyH_take (i := 17) (v := (.pointer (some ⟨b, off + m1, none⟩))) (op_at rfl) (by kernel_rfl) (by kernel_rfl) (by kernel_rfl) (fun _ _ _ h => h) (Or.inl ⟨rfl, fun w hSw => ?_⟩) (by assumption) ?_
      · (try dsimp only at hSw); go_simp; try with_reducible rfl
      (try simp only [Act.put, List.setIfInBounds_toArray, List.set_cons_zero, List.set_cons_succ])
      refine wpAnyH_take (i := 18) (v := (.string y)) (op_at rfl) (by kernel_rfl) (by kernel_rfl) (by kernel_rfl) (fun _ _ _ h => h) (Or.inl ⟨rfl, fun w hSw => ?_⟩) (by assumption) ?_
      · (try dsimp only at hSw); go_simp; try with_reducible rfl
      (try simp only [Act.put, List.setIfInBounds_toArray, List.set_cons_zero, List.set_cons_succ])
      refine wpAnyH_ready (rs := [19]) (by kernel_rfl) (by simp) (AllReadyH.cons (op_at rfl) (fun K hK => ?_) AllReadyH.nil)
      go_simp
      refine (HWK.out _).mono ?_
      rintro e w8 ⟨rfl, rfl⟩
      go_wp2_with fail
      refine hK.out _ _ ⟨cx, cy⟩ (fun hHeld => ?_)
      clear hK K
      (try simp only [Act.put, List.setIfInBounds_toArray, List.set_cons_zero, List.set_cons_succ])
      refine wpAnyH_take (i := 20) (v := (.agg #[.string x, .string y, .int .i64 ww])) (op_at rfl) (by kernel_rfl) (by kernel_rfl) (by kernel_rfl) (fun _ _ _ h => h) (Or.inl ⟨rfl, fun w hSw => ?_⟩) (by assumption) ?_
      · (try dsimp only at hSw); go_simp; try with_reducible rfl
      (try simp only [Act.put, List.setIfInBounds_toArray, List.set_cons_zero, List.set_cons_succ])
      refine wpAnyH_ready (rs := [21]) (by kernel_rfl) (by simp) (AllReadyH.cons (op_at rfl) (fun K hK => ?_) AllReadyH.nil)
      go_simp
      refine hK.out _ _ ⟨Gr.cell ((Gr.refl V).alloc _) cx, Gr.cell ((Gr.refl V).alloc _) cy⟩ (fun hHeld => ?_)
      clear hK K
      (try simp only [Act.put, List.setIfInBounds_toArray, List.set_cons_zero, List.set_cons_succ])
      refine wpAnyH_ready (rs := [22]) (by kernel_rfl) (by simp) (AllReadyH.cons (op_at rfl) (fun K hK => ?_) AllReadyH.nil)
      rw [if_pos (show Region.wanted _ _ = true from rfl)]
      refine step_ra 28 91 Tryz.underlying28 infoRaR _ _ rfl w.heap.size u3 j (raCs (pairR (ns.take (2 * j)))) rfl HOV.out ⟨x, y, ww⟩ V.heap.size 1 rfl (cell_new V #[.string x, .string y, .int .i64 ww] 91 0 (by simp)) (cell_new V #[.string x, .string y, .int .i64 ww] 91 1 (by simp)) (cell_new V #[.string x, .string y, .int .i64 ww] 91 2 (by simp)) (by omega) HSV.out ?_
      intro v1 w1 hown1 hgrow1
      have C1 := Lib.hid hown1
      have C2 : Hid (Gr w w1) := Below.grown HBV.out hgrow1 HSV.out (fun q hq => (own_in HOV.out hq).2)
      have C3 := Lib.hid (And.intro (Gr.cell C2.out HC0.out) (Gr.cell C2.out HC1.out))
      clear hown1 hgrow1
      refine hK.out _ _ C3.out (fun hHeld => ?_)
      clear hK K
      (try simp only [Act.put, List.setIfInBounds_toArray, List.set_cons_zero, List.set_cons_succ])
      refine wpAnyH_take (i := 23) (v := v1) (op_at rfl) (by kernel_rfl) (by kernel_rfl) (by kernel_rfl) (fun _ _ _ h => h) (Or.inl ⟨rfl, fun w hSw => ?_⟩) (by assumption) ?_
      · (try dsimp only at hSw); go_simp; try with_reducible rfl
      (try simp only [Act.put, List.setIfInBounds_toArray, List.set_cons_zero, List.set_cons_succ])
      refine wpAnyH_done (by kernel_rfl) ?_ _
      go_wp2_with fail
      go_roundg (gk - 1)
      case measure => omega
      case rel => exact ⟨j + 1, m2, by first | rfl | go_num | (rw [e2]), by have := HM0.out; have := HM2.out; omega, by omega, by have := C1.out; rw [HP.out, HRB.out, raCs_add]; exact this, C2.out⟩
    · obtain rfl : j = N := by omega
      have l1 : ¬ (m1 : Int) < n := by omega
      have HO := Lib.hid hown
      have HE : Hid (ns.take (2 * j) = ns) := by rw [Hid, List.take_of_length_le (by omega)]
      clear hown hm0 hN hNN hm1
      go_wp2_with fail
      go_ret
      exact ⟨_, rfl, by have := HO.out; rw [HE.out] at this; exact this, HG.out⟩
end Go.Proofs.YthfmgficbnmmnaaGreatDoor
namespace Go.Proofs.YthfmgficbnmmnaaGreatDoor
open Go.RowKit Go.Shelf
set_option linter.unusedSimpArgs false
set_option linter.unusedVariables false
theorem rowsIn_round {l n : Nat} {P : Program} {row : String} {args : Array Value} {w : World} {R : Value → World → Prop} (h : Rows P row args w R) : RowsIn (Fence.wide.inRound l) n P row args w R :=
  fun c cs _ => let ⟨v, w', r, s⟩ := h c cs; ⟨v, w', r, stepsIn_wide.2 s⟩
/-- operations, none of which defers, in a round as elsewhere -/
theorem opsIn_round {l n : Nat} {P : Program} {ops : Array Oper} {Q : Exit → Act → World → Prop} (hlo : ¬ LetsOut Q) (hd : ∀ (i : Nat) o, ops[i]? = some o → ∀ c, o.op ≠ .defer c) : ∀ (order : List Nat) (a : Act) (w : World), wpOps P ops Q order a w → wpOpsIn (Fence.wide.inRound l) n P ops Q order a w := by
  intro order
  induction order with
  | nil => exact fun a w h => h
  | cons i rest ih =>
    intro a w h
    simp only [wpOps] at h
    simp only [wpOpsIn]
    cases ho : ops[i]? with
    | none => rw [ho] at h; exact ih _ _ h
    | some o =>
      rw [ho] at h
      simp only at h ⊢
      split
      · rename_i hw
        rw [if_pos hw] at h
        rcases h with h | ⟨_, h⟩
        · refine ⟨fun _ _ => trivial, ?_⟩
          rw [Oper.semAt_eq _ _ _ (hd i o ho)]
          unfold Oper.wp at h
          generalize (execOp a.eval o).run P w = r at *
          cases r with
          | ok x w' =>
            cases x with
            | value v => exact ih _ _ h
            | skip => exact ih _ _ h
            | defer d => exact ih _ _ h
            | enter f args => exact ⟨by simp [Fence.wide], CallsIn.inRound l (callsIn_wide.2 (Calls.mono h (fun e w2 h2 => by cases e <;> first | exact ih _ _ h2 | exact h2)))⟩
            | row r args => exact ⟨by simp [Fence.wide], rowsIn_round (Rows.mono h (fun v w2 h2 => ih _ _ h2))⟩
            | _ => exact h.elim
          | halt x w' => cases x <;> first | exact h.elim | exact h
        · exact absurd h hlo
      · rename_i hw
        rw [if_neg hw] at h
        exact ⟨fun _ _ => trivial, ih _ _ h⟩
/-- a drawn region in a round -/
theorem wpIn_region_round {l n : Nat} {P : Program} {ops : Array Oper} {Q : Exit → Act → World → Prop} {S : World → Prop} {id : Nat} {a : Act} {w : World} (hlo : ¬ LetsOut Q) (hd : ∀ (i : Nat) o, ops[i]? = some o → ∀ c, o.op ≠ .defer c) (hm : P.follows .mixedOrders = true) (hS : S w.drew)
    (h : S w.drew → wpAnyH P .any ops Q S ops.size (Array.replicate ops.size false) a w.drew) : (Code.region id ops true).wpIn (Fence.wide.inRound l) n P Q a w :=
  wpIn_region_draw fun t => by
    simp only [Region.schedule, hm, Bool.true_or, if_true]
    exact opsIn_round hlo hd _ _ _ (wpAny_sound ops.size t _ a _ (wpAny_of_held _ _ _ _ (h hS)))
end Go.Proofs.YthfmgficbnmmnaaGreatDoor
namespace Go.Proofs.YthfmgficbnmmnaaGreatDoor
open Go.RowKit Go.Shelf
set_option linter.unusedSimpArgs false
set_option linter.unusedVariables false
attribute [local go_sem] Oper.semAt_some
/-- blocks that lay below n₀ lie as they lay, but for one -/
def KpX (n₀ x : Nat) (W W' : World) : Prop := ∀ k, k < n₀ → k ≠ x → W'.heap[k]? = W.heap[k]?
theorem kpX_t {n₀ x : Nat} {A B C : World} (h : KpX n₀ x A B) (k : KpX n₀ x B C) : KpX n₀ x A C := fun j h1 h2 => (k j h1 h2).trans (h j h1 h2)
theorem KpX.cell {n₀ x b : Nat} {A B : World} (h : KpX n₀ x A B) (h1 : b < n₀) (h2 : b ≠ x) {o : Nat} {v : Value} (hc : A.cell? ⟨b, o, none⟩ = some v) : B.cell? ⟨b, o, none⟩ = some v := (World.cell?_of_block (a := ⟨b, o, none⟩) (h b h1 h2)).trans hc
theorem two_less {M m m2 : Nat} (h : m2 = m + 2) (k : m2 ≤ M) : M + 2 - (intOf (.int .i64 (m2 : Int))).toNat < M + 2 - (intOf (.int .i64 (m : Int))).toNat := by
  show M + 2 - ((m2 : Int)).toNat < M + 2 - ((m : Int)).toNat
  rw [Int.toNat_natCast, Int.toNat_natCast]
  omega
theorem gr_grown6 {w w' : World} (h : Gr w w') : w.grownBy w' none := ⟨h.os, h.tape, h.output, Below.size h, fun k hk _ => Below.block h k hk⟩
end Go.Proofs.YthfmgficbnmmnaaGreatDoor
namespace Go.Proofs.YthfmgficbnmmnaaGreatDoor
open Go.RowKit Go.Lib
set_option linter.unusedSimpArgs false
set_option linter.unusedVariables false
theorem infoStr6 : (Tryz.prog.info? 9).map (fun i => (i.zero, i.size, i.bytes)) = some (some (.string ⟨#[]⟩), 1, 16) := by kernel_rfl
theorem cell_one6 (w : World) (a : Value) (T : TypeId) : ∀ (j : Nat) (u : Value), [a][j]? = some u → (w.alloc (.cells #[a] T)).cell? ((⟨w.heap.size, 0, none⟩ : Addr).add j) = some u := by
  intro j u h
  cases j with
  | zero => simp at h; subst h; rw [addr_add]; exact cell_new w #[a] T 0 (by simp)
  | succ j => simp at h
/-- names as cells -/
def nmC (ns : List ByteArray) : List Value := ns.map fun s => .string s
theorem nmC_add (ns : List ByteArray) (s : ByteArray) : nmC (ns ++ [s]) = nmC ns ++ [.string s] := by simp [nmC]
theorem nmAts_of_own {w : World} {base : Nat} {v : Value} {ns : List ByteArray} {T : TypeId} {n : Nat} (hn : ns.length = n) (h : w.ownsRow base T 1 v n (nmC ns)) : StrAts w v ns := by
  subst hn
  rcases h.2 with ⟨rfl, h0⟩ | ⟨g, cap, cur, rfl, _, _, hle, hmx, _, _⟩
  · exact ⟨none, 0, by rw [h0], ⟨by omega, by unfold maxLen; omega⟩, fun h => by omega⟩
  · refine ⟨some ⟨g, 0, none⟩, cap, rfl, ⟨hle, hmx⟩, fun _ => ⟨g, 0, rfl, fun i x hx => ?_⟩⟩
    have c0 := h.cells (g := g) rfl i (.string x) (by simp [nmC, hx])
    rw [addr_add] at c0
    exact ⟨c0⟩
end Go.Proofs.YthfmgficbnmmnaaGreatDoor
namespace Go.Proofs.YthfmgficbnmmnaaGreatDoor
open Go.RowKit Go.Shelf
set_option linter.unusedSimpArgs false
set_option linter.unusedVariables false
attribute [local go_sem] Oper.semAt_some
theorem boxes_two (w : World) (a0 b0 : Value) (T U : Nat) : ∃ W, (w.alloc (.cells #[a0] T)).alloc (.cells #[b0] U) = W ∧ Gr w W ∧ W.cell? ⟨w.heap.size, 0, none⟩ = some a0 ∧ W.cell? ⟨w.heap.size + 1, 0, none⟩ = some b0 := by
  refine ⟨_, rfl, ((Gr.refl w).alloc _).alloc _, ?_, ?_⟩
  · exact ((Gr.refl (w.alloc (.cells #[a0] T))).alloc _).cell (cell_new w #[a0] T 0 (by simp))
  · have := cell_new (w.alloc (.cells #[a0] T)) #[b0] U 0 (by simp)
    rwa [World.size_alloc] at this
theorem pairR_range (l : List ByteArray) (n : Nat) (hl : l.length = 2 * n) : ∀ j, j ≤ n → pairR (l.take (2 * j)) = (List.range j).map (fun i => raB (l.getD (2 * i) ⟨#[]⟩) (l.getD (2 * i + 1) ⟨#[]⟩))
  | 0, _ => rfl
  | j + 1, h => by
    have h0 : 2 * j < l.length := by omega
    have h1 : 2 * j + 1 < l.length := by omega
    rw [pairR_take j n l _ _ hl (List.getElem?_eq_getElem h0) (List.getElem?_eq_getElem h1), pairR_range l n hl j (by omega), List.range_succ, List.map_append]
    simp [List.getD_eq_getElem?_getD, h0, h1]
/-- the loop over the slots: the races in the box at x -/
structure RacI (n₀ x : Nat) (rs : List RaR) (W : World) : Prop where
  mk' ::
  out : ∃ v, W.cell? ⟨x, 0, none⟩ = some v ∧ W.frozen? ⟨x, 0, none⟩ = false ∧ W.ownsRow n₀ 55 3 v rs.length (raCs rs)
theorem own_turn {w w' : World} {b s n : Nat} {T : TypeId} {v : Value} {l : List Value} {row : Option Nat} (h : w.ownsRow b T s v n l) (hg : w.grownBy w' row) (hrow : ∀ r, row = some r → ∃ o : Obj, w.heap[r]? = some o ∧ o.isCells = false) : w'.ownsRow b T s v n l := by
  refine ⟨h.1, ?_⟩
  rcases h.2 with hn | ⟨g, cap, cur, rfl, hb, hgg, rest⟩
  · exact .inl hn
  · refine .inr ⟨g, cap, cur, rfl, hb, ?_, rest⟩
    have hlt := (Array.getElem?_eq_some_iff.1 hgg).1
    rw [hg.block g hlt (fun e => by obtain ⟨o, ho, hc⟩ := hrow g e.symm; rw [hgg] at ho; cases ho; cases hc)]
    exact hgg
end Go.Proofs.YthfmgficbnmmnaaGreatDoor
