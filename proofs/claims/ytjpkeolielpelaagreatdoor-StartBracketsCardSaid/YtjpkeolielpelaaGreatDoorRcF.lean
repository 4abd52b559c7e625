/- Brackets: races in memory; the reference's first round; races compared. -/
import Derived.Test.YtjpkeolielpelaaGreatDoorRcE
namespace Go.Proofs.YtjpkeolielpelaaGreatDoor
open Go.RowKit Go.Lib
set_option linter.unusedSimpArgs false
set_option linter.unusedVariables false
theorem raCs_len (l : List RaR) : (raCs l).length = l.length * 3 := by
  induction l with
  | nil => rfl
  | cons x xs ih => simp only [raCs, List.flatMap_cons, List.length_append, List.length_cons] at *; rw [ih]; simp [raC]; omega
theorem raCs_add (l : List RaR) (r : RaR) : raCs (l ++ [r]) = raCs l ++ raC r := by simp [raCs]
theorem raCs_at {xs : List RaR} {i : Nat} {x : RaR} (h : xs[i]? = some x) (j : Nat) (hj : j < 3) : (raCs xs)[i * 3 + j]? = (raC x)[j]? := by
  induction xs generalizing i with
  | nil => simp at h
  | cons y ys ih =>
    have e : raCs (y :: ys) = raC y ++ raCs ys := rfl
    rw [e]
    cases i with
    | zero =>
      simp only [List.getElem?_cons_zero, Option.some.injEq] at h
      subst h
      rw [show 0 * 3 + j = j by omega, List.getElem?_append_left (by simp [raC]; omega)]
    | succ i =>
      rw [List.getElem?_append_right (by simp [raC]; omega)]
      have := ih (i := i) (by simpa using h)
      rw [← this]
      congr 1
      simp [raC]; omega
/-- the slice holds these races -/
structure RaS (w : World) (q : Option Addr) (l : List RaR) : Prop where
  mk' ::
  out : 0 < l.length → ∃ b off, q = some ⟨b, off, none⟩ ∧ ∀ (i : Nat) (r : RaR), l[i]? = some r → w.cell? ⟨b, off + i * 3, none⟩ = some (.string r.a) ∧ w.cell? ⟨b, off + i * 3 + 1, none⟩ = some (.string r.b) ∧ w.cell? ⟨b, off + i * 3 + 2, none⟩ = some (.int .i64 r.w)
theorem RaS.gr {w w' : World} {q : Option Addr} {l : List RaR} (h : RaS w q l) (k : Gr w w') : RaS w' q l := ⟨fun h0 => by
  obtain ⟨g, off, e, hc⟩ := h.out h0
  exact ⟨g, off, e, fun i r hr => ⟨k.cell (hc i r hr).1, k.cell (hc i r hr).2.1, k.cell (hc i r hr).2.2⟩⟩⟩
theorem RaS.of_own {w : World} {b n : Nat} {T : TypeId} {q : Option Addr} {c : Nat} {l : List RaR} (h : w.ownsRow b T 3 (.slice q n c) n (raCs l)) (hn : l.length = n) : RaS w q l := ⟨fun h0 => by
  rcases h.2 with ⟨e, hz⟩ | ⟨g, cap, cur, e, _, _, hle, hmx, _, _⟩
  · omega
  · simp only [Value.slice.injEq] at e
    obtain ⟨rfl, _, rfl⟩ := e
    refine ⟨g, 0, rfl, fun i r hr => ?_⟩
    have hi := (List.getElem?_eq_some_iff.1 hr).1
    have c0 := h.cellAt (i * 3 + 0) (by omega)
    have c1 := h.cellAt (i * 3 + 1) (by omega)
    have c2 := h.cellAt (i * 3 + 2) (by omega)
    rw [raCs_at hr _ (by omega)] at c0 c1 c2
    rw [Nat.zero_add]
    exact ⟨c0, c1, c2⟩⟩
theorem infoRaP : (Tryz.prog.info? 51).map (fun i => (i.zero, i.size, i.bytes)) = some (some (.agg #[.string ⟨#[]⟩, .string ⟨#[]⟩, .int .i64 0]), 3, 40) := by kernel_rfl
theorem infoRaR : (Tryz.prog.info? 55).map (fun i => (i.zero, i.size, i.bytes)) = some (some (.agg #[.string ⟨#[]⟩, .string ⟨#[]⟩, .int .i64 0]), 3, 40) := by kernel_rfl
set_option maxRecDepth 100000 in
/-- one more race, appended -/
theorem step_ra {w : World} {o : Oper} {a : Act} {K : Act → World → Prop} {Q : Exit → Act → World → Prop} (TS T : TypeId) (hu : Tryz.prog.underlying TS = some (.slice T)) (hT : (Tryz.prog.info? T).map (fun i => (i.zero, i.size, i.bytes)) = some (some (.agg #[.string ⟨#[]⟩, .string ⟨#[]⟩, .int .i64 0]), 3, 40))
    (s x : Operand) (ho : o.op = .call { callee := .builtin .append, args := #[s, x], argTypes := #[TS, TS] })
    (base : Nat) (v : Value) (n : Nat) (xs : List Value) (hs : a.eval s = v) (hown : w.ownsRow base T 3 v n xs) (r : RaR) (g c : Nat) (hx : a.eval x = .slice (some ⟨g, 0, none⟩) 1 c)
    (h0 : w.cell? ⟨g, 0, none⟩ = some (.string r.a)) (h1 : w.cell? ⟨g, 1, none⟩ = some (.string r.b)) (h2 : w.cell? ⟨g, 2, none⟩ = some (.int .i64 r.w)) (hn : n ≤ 1000) (hbase : base ≤ w.heap.size)
    (h : ∀ v' w', w'.ownsRow base T 3 v' (n + 1) (xs ++ raC r) → w.grownBy w' v.ownBlock → K (a.put o.dst v') w') : Oper.wp Tryz.prog o a w K Q := by
  obtain ⟨i1, hj, hy0, hy1, hy2⟩ := info_parts hT
  obtain ⟨v', w', hr, e2, e3, _, _⟩ := run_append_own_at (P := Tryz.prog) w base TS o.type T i1 (.agg #[.string ⟨#[]⟩, .string ⟨#[]⟩, .int .i64 0]) 3 40 hu hj hy0 hy1 hy2 rfl (by decide) v n xs hown ⟨g, 0, none⟩ 1 c (raC r) (by simp [raC])
    (fun j u hu => by
      have ea : (⟨g, 0, none⟩ : Addr).add j = ⟨g, j, none⟩ := by unfold Addr.add; split <;> simp_all
      rw [ea]
      unfold raC at hu
      rcases j with _ | _ | _ | j <;> simp at hu <;> subst hu <;> assumption)
    (fun u hu => by unfold raC at hu; simp at hu; rcases hu with rfl | rfl | rfl <;> rfl) (by unfold maxLen; omega) (by omega) hbase
  unfold Oper.wp
  simp [execOp, ho, resolve, invoke, builtin, hs, hx, hr, Result.andThen]
  exact h v' w' e2 e3
/-- names side by side -/
def pairR : List ByteArray → List RaR
  | a :: b :: r => raB a b :: pairR r
  | _ => []
theorem pairR_len : ∀ (n : Nat) (l : List ByteArray), l.length = 2 * n → (pairR l).length = n
  | 0, [], _ => rfl
  | n + 1, a :: b :: r, h => by
    simp only [pairR, List.length_cons] at h ⊢
    rw [pairR_len n r (by omega)]
theorem pairR_take : ∀ (j n : Nat) (l : List ByteArray) (x y : ByteArray), l.length = 2 * n → l[2 * j]? = some x → l[2 * j + 1]? = some y → pairR (l.take (2 * (j + 1))) = pairR (l.take (2 * j)) ++ [raB x y]
  | 0, n, a :: b :: r, x, y, _, hx, hy => by
    simp at hx hy
    subst hx hy
    rfl
  | j + 1, n + 1, a :: b :: r, x, y, hl, hx, hy => by
    simp only [List.length_cons] at hl
    have ih := pairR_take j n r x y (by omega) (by rw [show 2 * (j + 1) = 2 * j + 1 + 1 by omega] at hx; simpa using hx) (by rw [show 2 * (j + 1) + 1 = 2 * j + 1 + 1 + 1 by omega] at hy; simpa using hy)
    rw [show 2 * (j + 1 + 1) = 2 * (j + 1) + 1 + 1 by omega, show 2 * (j + 1) = 2 * j + 1 + 1 by omega]
    simp only [List.take_succ_cons, pairR, List.cons_append]
    rw [show 2 * j + 1 + 1 = 2 * (j + 1) by omega, ih]
  | 0, _, [], x, y, _, hx, _ => by simp at hx
  | 0, _, [a], x, y, _, _, hy => by simp at hy
  | j + 1, _, [], x, y, _, hx, _ => by simp at hx
  | j + 1, _, [a], x, y, hl, _, _ => by simp at hl; omega
  | j + 1, 0, a :: b :: r, x, y, hl, _, _ => by simp at hl
set_option maxHeartbeats 4000000 in
set_option maxRecDepth 100000 in
theorem paired_c (ns : List ByteArray) (v : Value) (N : Nat) (w : World) (hv : StrAts w v ns) (hN : ns.length = 2 * N) (h1 : N ≤ 100) :
    Calls Tryz.prog 55 #[v] w fun e w' => ∃ u, e = .returned u ∧ w'.ownsRow w.heap.size 55 3 u N (raCs (pairR ns)) ∧ Gr w w' := by
  obtain ⟨⟨p, cap, rfl, _, hh⟩⟩ := hv
  obtain ⟨n, hn⟩ : ∃ n, n = ns.length := ⟨_, rfl⟩
  rw [← hn] at hh hN ⊢
  have HH := Lib.hid hh
  have HN := Lib.hid hn
  clear hh hn
  go_enter Tryz.func55, Tryz.ntmps55
  go_wp2_with fail
  go_loopg [3, 4] N (fun gk s3 s4 wr => ∃ j m : Nat, s4 = .int .i64 (m : Int) ∧ m = 2 * j ∧ gk + j = N ∧ wr.ownsRow w.heap.size 55 3 s3 j (raCs (pairR (ns.take (2 * j)))) ∧ Hid (Gr w wr))
  case atStart => exact ⟨0, 0, rfl, rfl, by omega, World.ownsRow_nil _ _ _ _, Gr.refl _⟩
  case round =>
    obtain ⟨j, m0, rfl, hm0, hgk, hown, HG⟩ := hrel
    obtain ⟨m1, hm1⟩ : ∃ m1 : Nat, m1 = m0 + 1 := ⟨_, rfl⟩
    have hNN := HN.out
    have e1 : (m0 : Int) + 1 = (m1 : Int) := by omega
    have wj : IntKind.i64.wrap (m1 : Int) = (m1 : Int) := by rw [IntKind.wrap_i64]; omega
    by_cases hlt : j < N
    · obtain ⟨x, hx⟩ : ∃ x, ns[2 * j]? = some x := ⟨ns[2 * j]'(by omega), List.getElem?_eq_getElem _⟩
      obtain ⟨y, hy⟩ : ∃ y, ns[2 * j + 1]? = some y := ⟨ns[2 * j + 1]'(by omega), List.getElem?_eq_getElem _⟩
      obtain ⟨b, off, rfl, hc⟩ := HH.out (by omega)
      have HC0 := Lib.hid (hc _ x hx).nm
      have HC1 := Lib.hid (hc _ y hy).nm
      rw [show 2 * j = m0 by omega] at HC0
      rw [show 2 * j + 1 = m1 by omega] at HC1
      have cx := Gr.cell HG.out.drew HC0.out
      have cy := Gr.cell HG.out.drew HC1.out
      have l0 : (m0 : Int) < n := by omega
      have l1 : (m1 : Int) < n := by omega
      obtain ⟨m2, hm2⟩ : ∃ m2 : Nat, m2 = m0 + 2 := ⟨_, rfl⟩
      have e2 : (m0 : Int) + 2 = (m2 : Int) := by omega
      have wj2 : IntKind.i64.wrap (m2 : Int) = (m2 : Int) := by rw [IntKind.wrap_i64]; omega
      have HP := Lib.hid (pairR_take j N ns x y (by omega) hx hy)
      have HWK := Lib.hid (fun W => walk_c x y W)
      have HRB : Hid (raB x y = ⟨x, y, walkW x y⟩) := rfl
      generalize walkW x y = ww at *
      have HOV : Hid ((wr.drew.alloc (.cells #[.string x, .string y, .int .i64 ww] 55)).ownsRow w.heap.size 55 3 u3 j (raCs (pairR (ns.take (2 * j))))) := World.ownsRow.alloc (w := wr.drew) hown _
      have HBV : Hid (Gr w (wr.drew.alloc (.cells #[.string x, .string y, .int .i64 ww] 55))) := HG.out.drew.alloc _
      have HSV : Hid (w.heap.size ≤ (wr.drew.alloc (.cells #[.string x, .string y, .int .i64 ww] 55)).heap.size) := HBV.out.size
      have HM0 := Lib.hid hm0
      have HM2 := Lib.hid hm2
      have HNN := Lib.hid hN
      clear hown hx hy hc hNN hm1 hm2 hm0 hN
      go_wp2_with fail
      refine wp_region_held_drew (S := (fun w' => w'.cell? ⟨b, off + m0, none⟩ = some (.string x) ∧ w'.cell? ⟨b, off + m1, none⟩ = some (.string y))) (by kernel_rfl) ⟨cx, cy⟩ (fun hHeld => ?_)
      generalize hVV : wr.drew = V at *
      clear hVV
      refine wpAnyH_take (i := 0) (v := u3) (op_at rfl) (by kernel_rfl) (by kernel_rfl) (by kernel_rfl) (fun _ _ _ h => h) (Or.inl ⟨rfl, fun w hSw => ?_⟩) (by assumption) ?_
      · (try dsimp only at hSw); go_simp; try with_reducible rfl
      (try simp only [Act.put, List.setIfInBounds_toArray, List.set_cons_zero, List.set_cons_succ])
      refine wpAnyH_take (i := 1) (v := (.slice (some ⟨b, off, none⟩) n cap)) (op_at rfl) (by kernel_rfl) (by kernel_rfl) (by kernel_rfl) (fun _ _ _ h => h) (Or.inl ⟨rfl, fun w hSw => ?_⟩) (by assumption) ?_
      · (try dsimp only at hSw); go_simp; try with_reducible rfl
      (try simp only [Act.put, List.setIfInBounds_toArray, List.set_cons_zero, List.set_cons_succ])
      refine wpAnyH_take (i := 2) (v := (.int .i64 (m0 : Int))) (op_at rfl) (by kernel_rfl) (by kernel_rfl) (by kernel_rfl) (fun _ _ _ h => h) (Or.inl ⟨rfl, fun w hSw => ?_⟩) (by assumption) ?_
      · (try dsimp only at hSw); go_simp; try with_reducible rfl
      (try simp only [Act.put, List.setIfInBounds_toArray, List.set_cons_zero, List.set_cons_succ])
      refine wpAnyH_take (i := 3) (v := (.pointer (some ⟨b, off + m0, none⟩))) (op_at rfl) (by kernel_rfl) (by kernel_rfl) (by kernel_rfl) (fun _ _ _ h => h) (Or.inl ⟨rfl, fun w hSw => ?_⟩) (by assumption) ?_
      · (try dsimp only at hSw); go_simp; try with_reducible rfl
      (try simp only [Act.put, List.setIfInBounds_toArray, List.set_cons_zero, List.set_cons_succ])
      refine wpAnyH_take (i := 4) (v := (.string x)) (op_at rfl) (by kernel_rfl) (by kernel_rfl) (by kernel_rfl) (fun _ _ _ h => h) (Or.inl ⟨rfl, fun w hSw => ?_⟩) (by assumption) ?_
      · (try dsimp only at hSw); go_simp; try with_reducible rfl
      (try simp only [Act.put, List.setIfInBounds_toArray, List.set_cons_zero, List.set_cons_succ])
      refine wpAnyH_take (i := 5) (v := (.slice (some ⟨b, off, none⟩) n cap)) (op_at rfl) (by kernel_rfl) (by kernel_rfl) (by kernel_rfl) (fun _ _ _ h => h) (Or.inl ⟨rfl, fun w hSw => ?_⟩) (by assumption) ?_
      · (try dsimp only at hSw); go_simp; try with_reducible rfl
      (try simp only [Act.put, List.setIfInBounds_toArray, List.set_cons_zero, List.set_cons_succ])
      refine wpAnyH_take (i := 6) (v := (.int .i64 (m0 : Int))) (op_at rfl) (by kernel_rfl) (by kernel_rfl) (by kernel_rfl) (fun _ _ _ h => h) (Or.inl ⟨rfl, fun w hSw => ?_⟩) (by assumption) ?_
      · (try dsimp only at hSw); go_simp; try with_reducible rfl
      (try simp only [Act.put, List.setIfInBounds_toArray, List.set_cons_zero, List.set_cons_succ])
      refine wpAnyH_take (i := 7) (v := (.int .i64 (m1 : Int))) (op_at rfl) (by kernel_rfl) (by kernel_rfl) (by kernel_rfl) (fun _ _ _ h => h) (Or.inl ⟨rfl, fun w hSw => ?_⟩) (by assumption) ?_
      · (try dsimp only at hSw); go_simp; try with_reducible rfl
      (try simp only [Act.put, List.setIfInBounds_toArray, List.set_cons_zero, List.set_cons_succ])
      refine wpAnyH_take (i := 8) (v := (.pointer (some ⟨b, off + m1, none⟩))) (op_at rfl) (by kernel_rfl) (by kernel_rfl) (by kernel_rfl) (fun _ _ _ h => h) (Or.inl ⟨rfl, fun w hSw => ?_⟩) (by assumption) ?_
      · (try dsimp only at hSw); go_simp; try with_reducible rfl
      (try simp only [Act.put, List.setIfInBounds_toArray, List.set_cons_zero, List.set_cons_succ])
      refine wpAnyH_take (i := 9) (v := (.string y)) (op_at rfl) (by kernel_rfl) (by kernel_rfl) (by kernel_rfl) (fun _ _ _ h => h) (Or.inl ⟨rfl, fun w hSw => ?_⟩) (by assumption) ?_
      · (try dsimp only at hSw); go_simp; try with_reducible rfl
      (try simp only [Act.put, List.setIfInBounds_toArray, List.set_cons_zero, List.set_cons_succ])
      refine wpAnyH_take (i := 10) (v := (.slice (some ⟨b, off, none⟩) n cap)) (op_at rfl) (by kernel_rfl) (by kernel_rfl) (by kernel_rfl) (fun _ _ _ h => h) (Or.inl ⟨rfl, fun w hSw => ?_⟩) (by assumption) ?_
      · (try dsimp only at hSw); go_simp; try with_reducible rfl
      (try simp only [Act.put, List.setIfInBounds_toArray, List.set_cons_zero, List.set_cons_succ])
      refine wpAnyH_take (i := 11) (v := (.int .i64 (m0 : Int))) (op_at rfl) (by kernel_rfl) (by kernel_rfl) (by kernel_rfl) (fun _ _ _ h => h) (Or.inl ⟨rfl, fun w hSw => ?_⟩) (by assumption) ?_
      · (try dsimp only at hSw); go_simp; try with_reducible rfl
      (try simp only [Act.put, List.setIfInBounds_toArray, List.set_cons_zero, List.set_cons_succ])
      refine wpAnyH_take (i := 12) (v := (.pointer (some ⟨b, off + m0, none⟩))) (op_at rfl) (by kernel_rfl) (by kernel_rfl) (by kernel_rfl) (fun _ _ _ h => h) (Or.inl ⟨rfl, fun w hSw => ?_⟩) (by assumption) ?_
      · (try dsimp only at hSw); go_simp; try with_reducible rfl
      (try simp only [Act.put, List.setIfInBounds_toArray, List.set_cons_zero, List.set_cons_succ])
      refine wpAnyH_take (i := 13) (v := (.string x)) (op_at rfl) (by kernel_rfl) (by kernel_rfl) (by kernel_rfl) (fun _ _ _ h => h) (Or.inl ⟨rfl, fun w hSw => ?_⟩) (by assumption) ?_
      · (try dsimp only at hSw); go_simp; try with_reducible rfl
      (try simp only [Act.put, List.setIfInBounds_toArray, List.set_cons_zero, List.set_cons_succ])
      refine wpAnyH_take (i := 14) (v := (.slice (some ⟨b, off, none⟩) n cap)) (op_at rfl) (by kernel_rfl) (by kernel_rfl) (by kernel_rfl) (fun _ _ _ h => h) (Or.inl ⟨rfl, fun w hSw => ?_⟩) (by assumption) ?_
      · (try dsimp only at hSw); go_simp; try with_reducible rfl
      (try simp only [Act.put, List.setIfInBounds_toArray, List.set_cons_zero, List.set_cons_succ])
      refine wpAnyH_take (i := 15) (v := (.int .i64 (m0 : Int))) (op_at rfl) (by kernel_rfl) (by kernel_rfl) (by kernel_rfl) (fun _ _ _ h => h) (Or.inl ⟨rfl, fun w hSw => ?_⟩) (by assumption) ?_
      · (try dsimp only at hSw); go_simp; try with_reducible rfl
      (try simp only [Act.put, List.setIfInBounds_toArray, List.set_cons_zero, List.set_cons_succ])
      refine wpAnyH_take (i := 16) (v := (.int .i64 (m1 : Int))) (op_at rfl) (by kernel_rfl) (by kernel_rfl) (by kernel_rfl) (fun _ _ _ h => h) (Or.inl ⟨rfl, fun w hSw => ?_⟩) (by assumption) ?_
      · (try dsimp only at hSw); go_simp; try with_reducible rfl
      (try simp only [Act.put, List.setIfInBounds_toArray, List.set_cons_zero, List.set_cons_succ])
      refine wpAnyH_take (i := 17) (v := (.pointer (some ⟨b, off + m1, none⟩))) (op_at rfl) (by kernel_rfl) (by kernel_rfl) (by kernel_rfl) (fun _ _ _ h => h) (Or.inl ⟨rfl, fun w hSw => ?_⟩) (by assumption) ?_
      · (try dsimp only at hSw); go_simp; try with_reducible rfl
      (try simp only [Act.put, List.setIfInBounds_toArray, List.set_cons_zero, List.set_cons_succ])
      refine wpAnyH_take (i := 18) (v := (.string y)) (op_at rfl) (by kernel_rfl) (by kernel_rfl) (by kernel_rfl) (fun _ _ _ h => h) (Or.inl ⟨rfl, fun w hSw => ?_⟩) (by assumption) ?_
      · (try dsimp only at hSw); go_simp; try with_reducible rfl
      (try simp only [Act.put, List.setIfInBounds_toArray, List.set_cons_zero, List.set_cons_succ])
      refine wpAnyH_ready (rs := [19]) (by kernel_rfl) (by simp) (AllReadyH.cons (op_at rfl) (fun K hK => ?_) AllReadyH.nil)
      go_simp
      refine (HWK.out _).mono ?_
      rintro e w8 ⟨rfl, rfl⟩
      go_wp2_with fail
      refine hK.out _ _ ⟨cx, cy⟩ (fun hHeld => ?_)
      clear hK K
      (try simp only [Act.put, List.setIfInBounds_toArray, List.set_cons_zero, List.set_cons_succ])
      refine wpAnyH_take (i := 20) (v := (.agg #[.string x, .string y, .int .i64 ww])) (op_at rfl) (by kernel_rfl) (by kernel_rfl) (by kernel_rfl) (fun _ _ _ h => h) (Or.inl ⟨rfl, fun w hSw => ?_⟩) (by assumption) ?_
      · (try dsimp only at hSw); go_simp; try with_reducible rfl
      (try simp only [Act.put, List.setIfInBounds_toArray, List.set_cons_zero, List.set_cons_succ])
      refine wpAnyH_ready (rs := [21]) (by kernel_rfl) (by simp) (AllReadyH.cons (op_at rfl) (fun K hK => ?_) AllReadyH.nil)
      go_simp
      refine hK.out _ _ ⟨Gr.cell ((Gr.refl V).alloc _) cx, Gr.cell ((Gr.refl V).alloc _) cy⟩ (fun hHeld => ?_)
      clear hK K
      (try simp only [Act.put, List.setIfInBounds_toArray, List.set_cons_zero, List.set_cons_succ])
      refine wpAnyH_ready (rs := [22]) (by kernel_rfl) (by simp) (AllReadyH.cons (op_at rfl) (fun K hK => ?_) AllReadyH.nil)
      rw [if_pos (show Region.wanted _ _ = true from rfl)]
      refine step_ra 42 55 Tryz.underlying42 infoRaR _ _ rfl w.heap.size u3 j (raCs (pairR (ns.take (2 * j)))) rfl HOV.out ⟨x, y, ww⟩ V.heap.size 1 rfl (cell_new V #[.string x, .string y, .int .i64 ww] 55 0 (by simp)) (cell_new V #[.string x, .string y, .int .i64 ww] 55 1 (by simp)) (cell_new V #[.string x, .string y, .int .i64 ww] 55 2 (by simp)) (by omega) HSV.out ?_
      intro v1 w1 hown1 hgrow1
      have C1 := Lib.hid hown1
      have C2 : Hid (Gr w w1) := Below.grown HBV.out hgrow1 HSV.out (fun q hq => (own_in HOV.out hq).2)
      have C3 := Lib.hid (And.intro (Gr.cell C2.out HC0.out) (Gr.cell C2.out HC1.out))
      clear hown1 hgrow1
      refine hK.out _ _ C3.out (fun hHeld => ?_)
      clear hK K
      (try simp only [Act.put, List.setIfInBounds_toArray, List.set_cons_zero, List.set_cons_succ])
      refine wpAnyH_take (i := 23) (v := v1) (op_at rfl) (by kernel_rfl) (by kernel_rfl) (by kernel_rfl) (fun _ _ _ h => h) (Or.inl ⟨rfl, fun w hSw => ?_⟩) (by assumption) ?_
      · (try dsimp only at hSw); go_simp; try with_reducible rfl
      (try simp only [Act.put, List.setIfInBounds_toArray, List.set_cons_zero, List.set_cons_succ])
      refine wpAnyH_done (by kernel_rfl) ?_ _
      go_wp2_with fail
      go_roundg (gk - 1)
      case measure => omega
      case rel => exact ⟨j + 1, m2, by first | rfl | go_num | (rw [e2]), by have := HM0.out; have := HM2.out; omega, by omega, by have := C1.out; rw [HP.out, HRB.out, raCs_add]; exact this, C2.out⟩
    · obtain rfl : j = N := by omega
      have l1 : ¬ (m1 : Int) < n := by omega
      have HO := Lib.hid hown
      have HE : Hid (ns.take (2 * j) = ns) := by rw [Hid, List.take_of_length_le (by omega)]
      clear hown hm0 hN hNN hm1
      go_wp2_with fail
      go_ret
      exact ⟨_, rfl, by have := HO.out; rw [HE.out] at this; exact this, HG.out⟩
set_option maxHeartbeats 4000000 in
set_option maxRecDepth 100000 in
theorem run_ok {l : List RaR} {q1 q2 : Option Addr} {n c1 c2 : Nat} {w : World} (h : RaS w q1 l) (h2 : RaS w q2 l) (hn : l.length = n) (hs : n ≤ 1000) :
    Calls Tryz.prog 17 #[.slice q1 n c1, .int .i64 0, .int .i64 0, .slice q2 n c2] w fun e w' => e = .returned (.bool true) ∧ Gr w w' := by
  have HA := Lib.hid h.out
  have HB := Lib.hid h2.out
  have HN := Lib.hid hn
  clear h h2 hn
  go_enter Tryz.func17, Tryz.ntmps17
  go_wp2_with fail
  go_loopg [9] n (fun gk s9 wr => ∃ k : Nat, s9 = .int .i64 (k : Int) ∧ gk + k = n ∧ Gr w wr)
  case atStart => exact ⟨0, rfl, by omega, Gr.refl _⟩
  case round =>
    obtain ⟨k, rfl, hk, hg⟩ := hrel
    by_cases hlt : k < n
    · obtain ⟨x, hx⟩ : ∃ x, l[k]? = some x := ⟨l[k]'(by have := HN.out; omega), List.getElem?_eq_getElem _⟩
      obtain ⟨b1, o1, rfl, ha⟩ := HA.out (by have := HN.out; omega)
      obtain ⟨b2, o2, rfl, hb⟩ := HB.out (by have := HN.out; omega)
      obtain ⟨a0, a1, a2⟩ := ha k x hx
      obtain ⟨d0, d1, d2⟩ := hb k x hx
      replace a0 := hg.cell a0
      replace a1 := hg.cell a1
      replace a2 := hg.cell a2
      replace d0 := hg.cell d0
      replace d1 := hg.cell d1
      replace d2 := hg.cell d2
      have hi : (k : Int) < (n : Int) := by omega
      obtain ⟨xa, xb, xw⟩ := x
      simp only at a0 a1 a2 d0 d1 d2
      clear hx ha hb
      go_wp2_with fail
      go_big_quiet (fail)
      go_wp2_with fail
      go_roundg (gk - 1)
      case measure => omega
      case rel => exact ⟨k + 1, by go_num, by omega, hg.drewN _⟩
    · obtain rfl : k = n := by omega
      have hi : (k : Int) ≤ k := by omega
      go_wp2_with fail
      go_ret
      exact ⟨rfl, hg⟩
set_option maxRecDepth 100000 in
theorem run_err (z : Int) (h : z ≠ 0) (v : Value) (w : World) : Calls Tryz.prog 17 #[.slice none 0 0, .int .i64 z, .int .i64 z, v] w fun e w' => e = .returned (.bool true) ∧ w = w' := by
  have h1 : (z != 0) = true := bne_iff_ne.2 h
  have h2 : (z == z) = true := by simp
  go_enter Tryz.func17, Tryz.ntmps17
  go_wp2_with fail
  go_ret
  exact ⟨by simp, rfl⟩
end Go.Proofs.YtjpkeolielpelaaGreatDoor
