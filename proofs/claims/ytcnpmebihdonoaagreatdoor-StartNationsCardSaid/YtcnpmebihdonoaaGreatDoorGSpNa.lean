/- Starters kept apart: an order in memory, its neighbours counted. -/
import Derived.Test.YtcnpmebihdonoaaGreatDoorGSpB
import Derived.Test.YtcnpmebihdonoaaGreatDoorGSpC
import Derived.Test.YtcnpmebihdonoaaGreatDoorGDrC
import Derived.Test.YtcnpmebihdonoaaGreatDoorGNat
import Derived.Test.YtcnpmebihdonoaaGreatDoorEvWrite
import Derived.Maps.AppendAt
import Derived.Lib.SliceRun
namespace Go.Proofs.YtcnpmebihdonoaaGreatDoor
open Go.RowKit Go.Lib
set_option linter.unusedSimpArgs false
set_option linter.unusedVariables false
theorem OrdL.perm {xs : List EntR} {key : Nat} {r : List Nat} (h : OrdL xs key r) : r.Perm (List.range xs.length) := by
  refine List.Perm.trans ?_ (drawN_perm key xs.length)
  rw [List.perm_iff_count]
  intro a
  have h1 : ∀ q : List Nat, q.count a = (q.filter fun x => keyN xs x == keyN xs a).count a := fun q => by
    rw [List.count_filter]
    simp
  rw [h1 r, h1 (drawN key xs.length).toList, h.flt]
theorem addr_add (b o j : Nat) : (⟨b, o, none⟩ : Addr).add j = ⟨b, o + j, none⟩ := by unfold Addr.add; split <;> simp_all
/-- the slice holds these numbers -/
structure NumS (w : World) (q : Option Addr) (p : List Nat) : Prop where
  mk' ::
  out : 0 < p.length → ∃ g off, q = some ⟨g, off, none⟩ ∧ ∀ (i a : Nat), p[i]? = some a → w.cell? ⟨g, off + i, none⟩ = some (.int .i64 (a : Int))
theorem NumS.gr {w w' : World} {q : Option Addr} {p : List Nat} (h : NumS w q p) (k : Gr w w') : NumS w' q p := ⟨fun h0 => by
  obtain ⟨g, off, e, hc⟩ := h.out h0
  exact ⟨g, off, e, fun i a ha => k.cell (hc i a ha)⟩⟩
theorem NumS.zero {w : World} {q : Option Addr} {p : List Nat} (h : 0 < p.length → ∃ g, q = some ⟨g, 0, none⟩ ∧ ∀ (i a : Nat), p[i]? = some a → w.cell? ⟨g, i, none⟩ = some (.int .i64 (a : Int))) : NumS w q p := ⟨fun h0 => by
  obtain ⟨g, e, hc⟩ := h h0
  exact ⟨g, 0, e, fun i a ha => by rw [Nat.zero_add]; exact hc i a ha⟩⟩
theorem NumS.ints {w : World} {q : Option Addr} {p : List Nat} {m : Nat} (h : NumS w q p) (hm : p.length = m) : 0 < m → ∃ b off, q = some ⟨b, off, none⟩ ∧ ∀ (i : Nat) (z : Int), (natI p)[i]? = some z → w.cell? ⟨b, off + i, none⟩ = some (.int .i64 z) := fun h0 => by
  obtain ⟨g, off, e, hc⟩ := h.out (by omega)
  refine ⟨g, off, e, fun i z hz => ?_⟩
  unfold natI at hz
  rw [List.getElem?_map] at hz
  cases hp : p[i]? with
  | none => rw [hp] at hz; cases hz
  | some a =>
    rw [hp] at hz
    cases hz
    exact hc i a hp
theorem NumS.of_ints {w : World} {q : Option Addr} {p : List Nat} (h : 0 < p.length → ∃ b off, q = some ⟨b, off, none⟩ ∧ ∀ (i : Nat) (z : Int), (p.map fun (i : Nat) => (i : Int))[i]? = some z → w.cell? ⟨b, off + i, none⟩ = some (.int .i64 z)) : NumS w q p := ⟨fun h0 => by
  obtain ⟨b, off, e, hc⟩ := h h0
  exact ⟨b, off, e, fun i a ha => hc i (a : Int) (by rw [List.getElem?_map, ha]; rfl)⟩⟩
theorem NumS.of_own {w : World} {b n : Nat} {q : Option Addr} {c : Nat} {p : List Nat} (h : w.ownsRow b 3 1 (.slice q n c) n (nats p)) (hn : p.length = n) : NumS w q p := .zero fun h0 => by
  obtain ⟨g, c2, e, _, _, _, hc⟩ := own_at h (by omega)
  simp only [Value.slice.injEq] at e
  exact ⟨g, e.1, fun i a ha => hc i _ (by unfold nats; rw [List.getElem?_map, ha]; rfl)⟩
theorem NumS.of_rowP {w : World} {g : Nat} {l : Array Nat} (h : RowP w g l) : NumS w (some ⟨g, 0, none⟩) l.toList := .zero fun h0 => ⟨g, rfl, fun i a ha => by
  have hi : i < l.size := by have := (List.getElem?_eq_some_iff.1 ha).1; simpa using this
  rw [h.cell hi]
  congr 2
  have : l[i] = a := by simpa using (List.getElem?_eq_some_iff.1 ha).2
  simp [Array.getD, hi, this]⟩
theorem nb_c (xs : List EntR) (v : Value) (p : List Nat) (q : Option Addr) (n c : Nat) (w : World) (hv : EntAts w v xs) (hz : listE 160 (entE xs) xs = 0) (hn : xs.length = n) (h1 : n ≤ 1000) (hp : p.Perm (List.range n)) (hq : NumS w q p) (hc : n ≤ c) :
    Calls Tryz.prog 12 #[v, .slice q n c] w fun e w' => e = .returned (.tuple #[.int .i64 (pairsF none (natO xs p) : Nat), .int .i64 0]) ∧ Gr w w' := by
  have hl : p.length = n := by rw [hp.length_eq, List.length_range]
  refine neighbours_c xs v p q n c w hv hl h1 (fun h0 => ?_) (fun a ha => by rw [hn]; exact List.mem_range.1 (hp.mem_iff.1 ha)) (fun W g => ?_) (fun W g => ?_)
  · exact hq.out (by omega)
  · have := checkEnts_c xs v W (hv.gr g)
    rwa [hz] at this
  · have h9 : ordersE ((xs.length : Nat) : Int) (natI p) = 0 := by rw [hn]; exact perm_ordersE hp
    have h8 := checkOrder_c (natI p) n c q ((xs.length : Nat) : Int) W (by rw [natI_len, hl]) h1 hc ((hq.gr g).ints hl)
    rw [h9] at h8
    exact h8
theorem tmod_nat (a b : Nat) : Int.tmod (a : Int) (b : Int) = ((a % b : Nat) : Int) := by
  rw [Int.tmod_eq_emod_of_nonneg (Int.natCast_nonneg _)]; rfl
end Go.Proofs.YtcnpmebihdonoaaGreatDoor
namespace Go.Proofs.YtcnpmebihdonoaaGreatDoor
open Go.RowKit Go.Lib
set_option linter.unusedSimpArgs false
set_option linter.unusedVariables false
/-- append(nil, make([]T, l)...) -/
theorem append_made {P : Program} {w : World} {t t2 ty elem : TypeId} {ki : IntKind} {info : TypeInfo} (hu : P.underlying t = some (.slice elem)) (hi : P.info? elem = some info) (h2 : P.underlying t2 = some (.int ki))
    {z : Value} {k : IntKind} {l : Int} (h0 : 0 < l) (hl : l.toNat ≤ 100000) (hby : info.bytes ≤ 1000) (hz : ∀ w : World, (zeroValue elem).run P w = .ok z w) (hzs : z.cells.size = info.size) :
    ∃ N C, l.toNat ≤ N ∧ N ≤ maxLen ∧ C.size = N * info.size ∧ (Builtin.append_ #[t, t2] ty #[.slice none 0 0, .int k l]).run P w = .ok (.slice (some ⟨w.heap.size, 0, none⟩) l.toNat N) (w.drew.alloc (.cells C elem)) := by
  letI : Ev.Ground := ⟨w⟩
  have hcap := Ev.nextslicecap_le (0 + l.toNat) 0 (by omega)
  have hbig : ¬ (281474976710656 < Builtin.nextslicecap (0 + l.toNat) 0 * info.bytes) := by
    have : Builtin.nextslicecap (0 + l.toNat) 0 * info.bytes ≤ 404000 * 1000 := Nat.mul_le_mul (by omega) hby
    omega
  have hw : IntKind.i64.wrap l = l := by rw [IntKind.wrap_i64]; omega
  have hb : ¬ (281474976710656 < l * info.bytes) := by
    have h1 : l * (info.bytes : Int) ≤ 100000 * 1000 := Int.mul_le_mul (by omega) (by omega) (by omega) (by omega)
    omega
  have hge := grownCap_ge w (0 + l.toNat) 0 elem
  have hle := grownCap_le_maxLen w (0 + l.toNat) 0 elem (by unfold maxLen; omega)
  refine ⟨grownCap w (0 + l.toNat) 0 elem, ⟨Ev.repN z.cells.toList l.toNat ++ (Builtin.zeroCells z.cells (grownCap w (0 + l.toNat) 0 elem - l.toNat)).toList⟩, by omega, hle, ?_, ?_⟩
  · generalize grownCap w (0 + l.toNat) 0 elem = G at *
    simp only [List.size_toArray, List.length_append, Ev.repN_length, Array.length_toList, Ev.zeroCells_repN, hzs, ← Nat.add_mul]
    rw [show l.toNat + (G - l.toNat) = G by omega]
  unfold grownCap
  unfold Builtin.append_
  have hfit : ¬ (0 + l.toNat ≤ 0) := by omega
  have h63' : ¬ (9223372036854775807 < ((0 + l.toNat : Nat) : Int)) := by omega
  have hneg : ¬ l < 0 := by omega
  simp only [List.getElem?_toArray, List.getElem?_cons_zero, List.getElem?_cons_succ, Sem.run_bind, Ev.under_run hu, Result.andThen_ok, sizeOf, typeInfo, run_program, hi, Sem.run_pure, Ev.under_run h2, if_true, asInt, hw]
  simp only [asIntOf, Sem.run_pure, Result.andThen_ok, hw, hneg, if_false, Sem.run_bind, run_program, hi]
  have hb' : ¬ (l * (info.bytes : Int) > 2 ^ 48) := by simpa using hb
  have hbig' : ¬ (Builtin.nextslicecap (0 + l.toNat) 0 * info.bytes > 2 ^ 48) := by simpa using hbig
  have h63'' : ¬ (((0 + l.toNat : Nat) : Int) > IntKind.i64.max ∧ (True ∨ info.bytes = 0)) := by
    rintro ⟨h1, _⟩
    have : IntKind.i64.max = 9223372036854775807 := by decide
    omega
  have hz0 : ¬ (l.toNat * info.size = 0) ∨ Ev.repN z.cells.toList l.toNat = [] := by
    rcases Nat.eq_zero_or_pos (l.toNat * info.size) with h | h
    · exact .inr (List.eq_nil_of_length_eq_zero (by rw [Ev.repN_length]; simpa [hzs] using h))
    · exact .inl (by omega)
  simp only [hb', if_false, Sem.run_bind, Sem.run_pure, Result.andThen_ok, hfit, run_program, hi, h63'', hbig']
  simp [Question.forced, hz, newRow, Builtin.firstCells]
  split
  · rename_i h
    rcases hz0 with h' | h'
    · exact absurd h h'
    · rw [h']; rfl
  · rw [Ev.zeroCells_repN]
    congr 3
    apply Array.ext'
    simp
/-- the same, as a step of a walk -/
theorem wpList_append_made {P : Program} {ops : Array Oper} {rest : List Oper} {o : Oper} {a : Act} {w : World} {Q : Exit → Act → World → Prop} (hgd : o.guard = none) (s x : Operand) (t t2 : TypeId)
    (ho : o.op = .call { callee := .builtin .append, args := #[s, x], argTypes := #[t, t2] })
    (elem : TypeId) (ki : IntKind) (info : TypeInfo) (z : Value) (size : Nat) (hu : P.underlying t = some (.slice elem)) (hi : P.info? elem = some info) (h2 : P.underlying t2 = some (.int ki)) (hzr : info.zero = some z) (hsz : info.size = size) (hzs : z.cells.size = size) (hby : info.bytes ≤ 1000)
    (l : Nat) (hl0 : 0 < l) (hl : l ≤ 100000) (hs : a.eval s = .slice none 0 0) (k : IntKind) (hx : a.eval x = .int k l)
    (h : ∀ N C, l ≤ N → N ≤ maxLen → C.size = N * size → wpList P ops Q rest (a.put o.dst (.slice (some ⟨w.heap.size, 0, none⟩) l N)) (w.drew.alloc (.cells C elem))) :
    wpList P ops Q (o :: rest) a w := by
  refine wpList_plain hgd fun K hK => ?_
  have hz : ∀ w : World, (zeroValue elem).run P w = .ok z w := fun w => by simp [zeroValue, typeInfo, hi, hzr]
  obtain ⟨N, C, g1, g2, g3, hr⟩ := append_made (P := P) (w := w) (ty := o.type) (k := k) (l := (l : Int)) hu hi h2 (by omega) (by simpa using hl) hby hz (by rw [hzs, hsz])
  simp only [Int.toNat_natCast] at g1 hr
  unfold Oper.wp execOp
  simp only [ho, resolve, invoke, builtin, Sem.run_bind, Sem.run_pure, Result.andThen_ok, List.map_toArray, List.map_cons, List.map_nil, hs, hx, hr]
  exact hK _ _ (h N C g1 g2 (by rw [g3, hsz]))
end Go.Proofs.YtcnpmebihdonoaaGreatDoor
namespace Go.Proofs.YtcnpmebihdonoaaGreatDoor
open Go.RowKit Go.Lib
set_option linter.unusedSimpArgs false
set_option linter.unusedVariables false
theorem infoL : (Tryz.prog.info? 23).map (fun i => (i.zero, i.size, i.bytes)) = some (some (.slice none 0 0), 1, 24) := by kernel_rfl
theorem uMapT : Tryz.prog.underlying 139 = some (.map 9 3) := by kernel_rfl
theorem zeroI (w : World) : (zeroValue 3).run Tryz.prog w = .ok (.int .i64 0) w := by kernel_rfl
theorem nats_snoc (l : List Nat) (a : Nat) : nats (l ++ [a]) = nats l ++ [.int .i64 (a : Int)] := by simp [nats]
/-- one more of a team, as the program appends and stores -/
theorem Tms.step {w W w1 : World} {mg G N cap : Nat} {vs : List Value} {ks : List (ByteArray × Nat)} {L : List (List Nat)} (h : Tms W w.heap.size mg (.slice (some ⟨G, 0, none⟩) N cap) vs ks L) (g : Gr w W) {i : Nat} {u u1 : Value} {l : List Nat} (hu : vs[i]? = some u) (hl : L[i]? = some l) {a : Nat} {o : Obj}
    (ho : w1.ownsRow w.heap.size 3 1 u1 (l.length + 1) (nats l ++ [.int .i64 (a : Int)])) (hgr : (W.alloc o).grownBy w1 u.ownBlock) (hat : u1.ownBlock = u.ownBlock ∨ u1.ownBlock = some (W.alloc o).heap.size) :
    w1.cell? ⟨G, i, none⟩ = some u ∧ w1.frozen? ⟨G, i, none⟩ = false ∧ Tms (w1.setCell ⟨G, i, none⟩ u1) w.heap.size mg (.slice (some ⟨G, 0, none⟩) N cap) (vs.set i u1) ks (L.set i (l ++ [a])) ∧ Gr w (w1.setCell ⟨G, i, none⟩ u1) := by
  have hA := h.gr ((Gr.refl W).alloc o)
  obtain ⟨t1, t2, t3⟩ := hA.grow hu hl hgr (l ++ [a]) (by rw [nats_snoc, List.length_append]; exact ho) hat
  refine ⟨t2, t3, t1, ?_⟩
  refine Below.setCell (Below.grown (g.alloc _) hgr ?_ (fun j hj => ?_)) (p := ⟨G, i, none⟩) (own_in h.own (g := G) rfl).2 u1
  · simp
    have := g.size
    omega
  · exact (own_in (hA.row i u l hu hl) hj).2
theorem own_shape {w : World} {b s n : Nat} {T : TypeId} {v : Value} {l : List Value} (h : w.ownsRow b T s v n l) : ∃ p c, v = .slice p n c ∧ n ≤ c ∧ c ≤ maxLen := by
  rcases h.2 with ⟨rfl, rfl⟩ | ⟨g, cap, cur, rfl, _, _, h1, h2, _⟩
  · exact ⟨none, 0, rfl, Nat.le_refl _, by unfold maxLen; omega⟩
  · exact ⟨_, cap, rfl, h1, h2⟩
theorem Tms.outer {W : World} {base mg : Nat} {v : Value} {vs : List Value} {ks : List (ByteArray × Nat)} {L : List (List Nat)} (h : Tms W base mg v vs ks L) {i : Nat} {u : Value} (hu : vs[i]? = some u) : ∃ G cap, v = .slice (some ⟨G, 0, none⟩) vs.length cap ∧ W.cell? ⟨G, i, none⟩ = some u := by
  have hlt := (List.getElem?_eq_some_iff.1 hu).1
  obtain ⟨g, c, e, _, _, _, hc⟩ := own_at h.own (by omega)
  exact ⟨g, c, e, hc i u hu⟩
set_option maxHeartbeats 4000000 in
set_option maxRecDepth 100000 in
theorem teams_c (xs : List EntR) (v : Value) (w : World) (hv : EntAts w v xs) (h1 : xs.length ≤ 1000) :
    Calls Tryz.prog 43 #[v] w fun e w' => ∃ (v' : Value) (vs : List Value) (ks : List (ByteArray × Nat)) (L : List (List Nat)) (mg : Nat), e = .returned v' ∧ Tms w' w.heap.size mg v' vs ks L ∧ TmF xs xs.length ks L ∧ Gr w w' := by
  obtain ⟨⟨pv, cap, rfl, _, hh⟩⟩ := hv
  have HH := Lib.hid hh
  clear hh
  obtain ⟨n, hn⟩ : ∃ n, n = xs.length := ⟨_, rfl⟩
  rw [← hn] at h1 HH ⊢
  have HN := Lib.hid hn
  clear hn
  obtain ⟨i0, hi, hz0, hz1, hz2⟩ := info_parts info3
  obtain ⟨i1, hi1, hy0, hy1, hy2⟩ := info_parts infoL
  have hmm := @run_makeMap Tryz.prog
  have HS0 : Hid (Tms (w.alloc (.map #[] 0)) w.heap.size w.heap.size (.slice none 0 0) [] [] []) := ⟨mapG_new w, Nat.le_refl _, World.ownsRow_nil _ _ _ _, rfl, fun i u l h => by simp at h, fun i j u u' g h => by simp at h, fun i u g h => by simp at h⟩
  have HG0 := Lib.hid ((Gr.refl w).alloc (.map #[] 0))
  go_enter Tryz.func43, Tryz.ntmps43
  go_wp2_with fail
  clear hmm
  generalize w.alloc (.map #[] 0) = W0 at *
  go_loopg [4, 5, 6, 7, 8, 12] n (fun gk s4 s5 s6 s7 s8 s12 wr => ∃ (k : Nat) (vs : List Value) (ks : List (ByteArray × Nat)) (L : List (List Nat)), s12 = .int .i64 k ∧ gk + k = n ∧ Tms wr w.heap.size w.heap.size s4 vs ks L ∧ Hid (TmF xs k ks L) ∧ Gr w wr)
  case atStart => exact ⟨0, [], [], [], rfl, by omega, HS0.out, TmF.zero xs, HG0.out⟩
  case round =>
    obtain ⟨k, vs, ks, L, rfl, hgk, hT, HF, hg⟩ := hrel
    by_cases hlt : k < n
    · obtain ⟨x, hx⟩ : ∃ x, xs[k]? = some x := ⟨xs[k]'(by have := HN.out; omega), List.getElem?_eq_getElem _⟩
      obtain ⟨b, off, rfl, hc⟩ := HH.out (by omega)
      obtain ⟨c0, c1, c2⟩ := (hc k x hx).gr hg
      have hki : (k : Int) < n := by omega
      obtain ⟨WB, hWB, gB, a0, a1, a2⟩ := box3 wr (.string x.nm) (.string x.na) (.int .i64 x.sd) 53
      have hTB := hT.gr gB
      have hGB := hg.trans gB
      have hlook := mapG_look2 uMapT zeroI hTB.map x.na
      rw [← hWB] at hlook
      have HWB := Lib.hid hWB
      have HSZ : Hid (wr.heap.size + 1 = WB.heap.size) := by unfold Hid; rw [← hWB]; simp
      have hfew := HF.out.few
      clear hT hg gB hWB hc
      cases hq : lookG ks x.na with
      | some j =>
        rw [hq] at hlook
        obtain ⟨l, hl, hF2⟩ := HF.out.old hx hq
        have HF2 := Lib.hid hF2
        have hll : l.length ≤ k := HF.out.le l (List.mem_of_getElem? hl)
        obtain ⟨u, hu⟩ : ∃ u, vs[j]? = some u := ⟨vs[j]'(by rw [hTB.len]; exact (List.getElem?_eq_some_iff.1 hl).1), List.getElem?_eq_getElem _⟩
        obtain ⟨G, capG, rfl, f0⟩ := hTB.outer hu
        have hjl : j < vs.length := (List.getElem?_eq_some_iff.1 hu).1
        have hvl : vs.length ≤ k := by rw [hTB.len]; exact hfew
        have hji : (j : Int) < vs.length := by omega
        have hown := own_kept (hTB.row j u l hu hl) ((Gr.refl WB).alloc (.cells #[.int .i64 (k : Int)] 3))
        have HST := Lib.hid (fun w1 u1 (ho : w1.ownsRow w.heap.size 3 1 u1 (l.length + 1) (nats l ++ [.int .i64 (k : Int)])) (hgr : (WB.alloc (.cells #[.int .i64 (k : Int)] 3)).grownBy w1 u.ownBlock) hat => hTB.step hGB hu hl ho hgr hat)
        have HLL := Lib.hid hll
        have HBS : Hid (w.heap.size ≤ WB.heap.size) := hGB.size
        simp only [Option.map_some, Option.getD_some, Option.isSome_some, evT] at hlook
        clear hF2 hq hTB hGB hu hl hll hx HF hfew
        rw [← HWB.out] at f0
        go_wp2_with (first
          | (at_builtin; rw [HWB.out, HSZ.out]; refine wpList_append_own_at _ rfl _ _ 23 rfl w.heap.size 3 i0 (.int .i64 0) 1 8 Tryz.underlying23 hi hz0 hz1 hz2 rfl (by decide) _ _ _ rfl hown ⟨WB.heap.size, 0, none⟩ 1 1 [.int .i64 (k : Int)] rfl rfl (cell_one_new _ _ _) (by intro u hu; simp at hu; subst hu; rfl) (by unfold maxLen; have := HLL.out; omega) (by have := HLL.out; omega) (by simp; have := HBS.out; omega) ?_; intro v1 w1 hown1 hgrow1 hnil1 hat1; obtain ⟨p1, cc1, rfl, hs1, hs2⟩ := row_shape hown1; obtain ⟨e1, e2, e3, e4⟩ := HST.out w1 _ hown1 hgrow1 hat1; have C3 := Lib.hid e3; have C4 := Lib.hid e4; clear e3 e4 hown1 hgrow1 hnil1 hat1 hs1 hs2))
        go_roundg (gk - 1)
        case measure => omega
        case rel => exact ⟨k + 1, _, ks, _, by go_num, by omega, by simpa using C3.out, HF2.out, C4.out⟩
      | none =>
        rw [hq] at hlook
        obtain ⟨p4, c4, rfl, _, _⟩ := own_shape hTB.own
        obtain ⟨ob, hput, hm2⟩ := mapG_put uMapT hTB.map x.na vs.length
        have hT2 := hTB.put hm2
        have hlen := hTB.len
        rw [putG_none _ hq] at hT2
        have HF2 := Lib.hid (HF.out.new hx hq)
        have hG2 := gr_putG (ob := ob) hGB (Nat.le_refl _)
        rw [← HWB.out] at hput
        have hWP : ∃ W, putGB (wr.alloc (.cells #[.string x.nm, .string x.na, .int .i64 x.sd] 53)) w.heap.size ob = W ∧ W = putGB WB w.heap.size ob := ⟨_, rfl, by rw [HWB.out]⟩
        obtain ⟨WP, hWP, hWP2⟩ := hWP
        rw [← hWP2] at hT2 hG2
        have HWP := Lib.hid hWP
        obtain ⟨m, hm⟩ : ∃ m, vs.length = m := ⟨_, rfl⟩
        rw [hm] at hT2
        have hmk : m ≤ k := by rw [← hm, hlen]; exact hfew
        have hi1' : (m : Int) < ((m + 1 : Nat) : Int) := by omega
        have HOO := Lib.hid (own_kept hT2.own ((Gr.refl WP).alloc (.cells #[Value.slice none 0 0] 23)))
        have HBS : Hid (w.heap.size ≤ WP.heap.size) := hG2.size
        have hM1 : ∀ v1 w1, w1.ownsRow w.heap.size 23 1 v1 (m + 1) (vs ++ [Value.slice none 0 0]) → (WP.alloc (.cells #[Value.slice none 0 0] 23)).grownBy w1 (Value.slice p4 m c4).ownBlock → (v1.ownBlock = (Value.slice p4 m c4).ownBlock ∨ v1.ownBlock = some (WP.alloc (.cells #[Value.slice none 0 0] 23)).heap.size) →
            ∃ G capG, v1 = .slice (some ⟨G, 0, none⟩) (m + 1) capG ∧ w1.cell? ⟨G, m, none⟩ = some (Value.slice none 0 0) ∧ w.heap.size ≤ w1.heap.size ∧ Hid (∀ w2 u1, w2.ownsRow w.heap.size 3 1 u1 (0 + 1) (nats [] ++ [.int .i64 (k : Int)]) → (w1.alloc (.cells #[.int .i64 (k : Int)] 3)).grownBy w2 (Value.slice none 0 0).ownBlock → (u1.ownBlock = (Value.slice none 0 0).ownBlock ∨ u1.ownBlock = some (w1.alloc (.cells #[.int .i64 (k : Int)] 3)).heap.size) →
              w2.cell? ⟨G, m, none⟩ = some (Value.slice none 0 0) ∧ w2.frozen? ⟨G, m, none⟩ = false ∧ Tms (w2.setCell ⟨G, m, none⟩ u1) w.heap.size w.heap.size (.slice (some ⟨G, 0, none⟩) (m + 1) capG) ((vs ++ [Value.slice none 0 0]).set m u1) (ks ++ [(x.na, m)]) ((L ++ [[]]).set m ([] ++ [k])) ∧ Gr w (w2.setCell ⟨G, m, none⟩ u1)) := fun v1 w1 ho hgr hat => by
          have hA := hT2.gr ((Gr.refl WP).alloc (.cells #[Value.slice none 0 0] 23))
          have hM := hA.more (by rw [hm]; exact ho) hgr hat
          have hg1 : Gr w w1 := by
            refine Below.grown (hG2.alloc _) hgr ?_ (fun j hj => (own_in hA.own hj).2)
            simp
            have := HBS.out
            omega
          have hat0 : (vs ++ [Value.slice none 0 0])[m]? = some (Value.slice none 0 0) := by rw [← hm]; simp
          obtain ⟨G, capG, rfl, f0⟩ := hM.outer hat0
          have hlen2 : (vs ++ [Value.slice none 0 0]).length = m + 1 := by simp [hm]
          rw [hlen2] at hM
          refine ⟨G, capG, by rw [hlen2], f0, hg1.size, fun w2 u1 ho2 hgr2 hat2 => ?_⟩
          exact hM.step (l := []) hg1 hat0 (by rw [← hm, hlen]; simp) ho2 hgr2 hat2
        have HM1 := Lib.hid hM1
        have HML : Hid (L.length = m) := by unfold Hid; rw [← hm, hlen]
        rw [hm] at HOO hput
        simp only [hm]
        simp only [Option.map_none, Option.getD_none, Option.isSome_none, evT] at hlook hput
        clear hM1 hT2 hG2 hWP hWP2 hm2 hq hTB hGB hx HF hfew hlen
        go_wp2_with (first
          | (at_builtin; rw [HWP.out]; refine wpList_append_own_at _ rfl _ _ 46 rfl w.heap.size 23 i1 (Value.slice none 0 0) 1 24 Tryz.underlying46 hi1 hy0 hy1 hy2 rfl (by decide) _ _ _ rfl HOO.out ⟨WP.heap.size, 0, none⟩ 1 1 [Value.slice none 0 0] rfl rfl (cell_one_new _ _ _) (by intro u hu; simp at hu; subst hu; rfl) (by unfold maxLen; omega) (by omega) (by simp; have := HBS.out; omega) ?_; intro v1 w1 hown1 hgrow1 hnil1 hat1; obtain ⟨G, capG, rfl, f0, fsz, HST⟩ := HM1.out v1 w1 hown1 hgrow1 hat1; clear hown1 hgrow1 hnil1 hat1)
          | (at_builtin; refine wpList_append_own_at _ rfl _ _ 23 rfl w.heap.size 3 i0 (.int .i64 0) 1 8 Tryz.underlying23 hi hz0 hz1 hz2 rfl (by decide) _ 0 (nats []) rfl (World.ownsRow_nil _ _ _ _) ⟨_, 0, none⟩ 1 1 [.int .i64 (k : Int)] rfl rfl (cell_one_new _ _ _) (by intro u hu; simp at hu; subst hu; rfl) (by unfold maxLen; omega) (by omega) (by simp; omega) ?_; intro v2 w2 hown1 hgrow1 hnil1 hat1; obtain ⟨p1, cc1, rfl, hs1, hs2⟩ := row_shape hown1; obtain ⟨e1, e2, e3, e4⟩ := HST.out w2 _ hown1 hgrow1 hat1; have C3 := Lib.hid e3; have C4 := Lib.hid e4; clear e3 e4 hown1 hgrow1 hnil1 hat1 hs1 hs2))
        go_roundg (gk - 1)
        case measure => omega
        case rel => exact ⟨k + 1, _, _, _, by go_num, by omega, C3.out, by have := HF2.out; rw [HML.out] at this; exact this, C4.out⟩
    · obtain rfl : k = n := by omega
      have HT := Lib.hid hT
      have HGG := Lib.hid hg
      clear hT hg
      go_wp2_with fail
      exact bodyPost_ret (v := u4) (by simp [results, Tryz.results43, go_sem]) rfl ⟨u4, vs, ks, L, _, rfl, HT.out, HF.out, HGG.out⟩
end Go.Proofs.YtcnpmebihdonoaaGreatDoor
namespace Go.Proofs.YtcnpmebihdonoaaGreatDoor
open Go.RowKit Go.Lib
set_option linter.unusedSimpArgs false
set_option linter.unusedVariables false
/-- the slice holds these integers -/
structure IntS (w : World) (q : Option Addr) (m : Nat) (zs : List Int) : Prop where
  mk' ::
  len : zs.length = m
  out : 0 < m → ∃ b off, q = some ⟨b, off, none⟩ ∧ ∀ (i : Nat) (z : Int), zs[i]? = some z → w.cell? ⟨b, off + i, none⟩ = some (.int .i64 z)
theorem IntS.gr {w w' : World} {q : Option Addr} {m : Nat} {zs : List Int} (h : IntS w q m zs) (k : Gr w w') : IntS w' q m zs := ⟨h.len, fun h0 => by
  obtain ⟨g, off, e, hc⟩ := h.out h0
  exact ⟨g, off, e, fun i a ha => k.cell (hc i a ha)⟩⟩
theorem IntS.at_ {w : World} {ad : Addr} {m : Nat} {zs : List Int} (h : IntS w (some ad) m zs) : ∀ (j : Nat) (u : Value), (ints zs)[j]? = some u → w.cell? (ad.add j) = some u := fun j u hu => by
  unfold ints at hu
  rw [List.getElem?_map] at hu
  cases hz : zs[j]? with
  | none => rw [hz] at hu; cases hu
  | some z =>
    rw [hz] at hu
    cases hu
    obtain ⟨b, off, e, hc⟩ := h.out (by have := (List.getElem?_eq_some_iff.1 hz).1; have := h.len; omega)
    cases e
    rw [addr_add]
    exact hc j z hz
theorem IntS.of_own {w : World} {b n : Nat} {q : Option Addr} {c : Nat} {zs : List Int} (h : w.ownsRow b 3 1 (.slice q n c) n (ints zs)) : IntS w q n zs := by
  have hl : zs.length = n := by have := h.1; unfold ints at this; simpa using this
  refine ⟨hl, fun h0 => ?_⟩
  obtain ⟨g, c2, e, _, _, _, hc⟩ := own_at h h0
  simp only [Value.slice.injEq] at e
  exact ⟨g, 0, e.1, fun i z hz => by rw [Nat.zero_add]; exact hc i _ (by unfold ints; rw [List.getElem?_map, hz]; rfl)⟩
theorem IntS.reads {w : World} {q : Option Addr} {c m : Nat} {zs : List Int} (h : IntS w q m zs) (h0 : ∀ b off, q = some ⟨b, off, none⟩ → off = 0) : ReadsI w (.slice q m c) zs := by
  refine ⟨q, c, by rw [h.len], fun hp => ?_⟩
  obtain ⟨b, off, e, hc⟩ := h.out (by rw [← h.len]; exact hp)
  obtain rfl := h0 b off e
  exact ⟨b, e, fun i x hx => by have := hc i x hx; rwa [Nat.zero_add] at this⟩
theorem ints_one (zs : List Int) : ∀ u ∈ ints zs, u.oneCell' = true := fun u hu => by
  unfold ints at hu
  obtain ⟨z, _, rfl⟩ := List.mem_map.1 hu
  rfl
theorem ints_len' (zs : List Int) : (ints zs).length = zs.length := by unfold ints; simp
theorem ints_append (a b : List Int) : ints (a ++ b) = ints a ++ ints b := by unfold ints; simp
/-- append(own, v...) of whatever numbers -/
theorem run_append_ints {w : World} {ty : TypeId} (base : Nat) (v : Value) (n : Nat) (xs : List Value) (hown : w.ownsRow base 3 1 v n xs) (q : Option Addr) (m c : Nat) (zs : List Int) (hz : IntS w q m zs) (h1 : n + m ≤ 100000) (hbase : base ≤ w.heap.size) :
    ∃ v' w', (Builtin.append_ #[23, 23] ty #[v, .slice q m c]).run Tryz.prog w = .ok v' w' ∧ w'.ownsRow base 3 1 v' (n + m) (xs ++ ints zs) ∧ w.grownBy w' v.ownBlock := by
  obtain ⟨i1, hj, hy0, hy1, hy2⟩ := info_parts info3
  cases q with
  | none =>
    have hm : m = 0 := by
      rcases Nat.eq_zero_or_pos m with h0 | h0
      · exact h0
      · obtain ⟨_, _, e, _⟩ := hz.out h0; cases e
    subst hm
    have hzz : zs = [] := List.eq_nil_of_length_eq_zero hz.len
    subst hzz
    refine ⟨v, w, ?_, by simpa [ints] using hown, ⟨rfl, rfl, rfl, Nat.le_refl _, fun _ _ _ => rfl⟩⟩
    rcases hown.2 with ⟨rfl, rfl⟩ | ⟨g, cap, cur, rfl, _, _, hnc, _⟩
    · simp [Builtin.append_, run_underlying Tryz.underlying23, sizeOf, typeInfo, hj, Builtin.lenOf, Builtin.firstCells]
    · simp [Builtin.append_, run_underlying Tryz.underlying23, sizeOf, typeInfo, hj, Builtin.lenOf, Builtin.firstCells, hnc, storeCells]
  | some ad =>
    obtain ⟨v', w', hr, h2, h3, _, _⟩ := run_append_own_at (P := Tryz.prog) w base 23 ty 3 i1 (.int .i64 0) 1 8 Tryz.underlying23 hj hy0 hy1 hy2 rfl (by decide) v n xs hown ad m c (ints zs) (by rw [ints_len', hz.len, Nat.mul_one]) hz.at_ (ints_one zs) (by unfold maxLen; omega) (by omega) hbase
    exact ⟨v', w', hr, h2, h3⟩
theorem wpList_append_ints {ops : Array Oper} {rest : List Oper} {o : Oper} {a : Act} {w : World} {Q : Exit → Act → World → Prop} (hgd : o.guard = none) (s x : Operand) (ho : o.op = .call { callee := .builtin .append, args := #[s, x], argTypes := #[23, 23] })
    (base : Nat) (v : Value) (n : Nat) (xs : List Value) (hs : a.eval s = v) (hown : w.ownsRow base 3 1 v n xs) (q : Option Addr) (m c : Nat) (zs : List Int) (hx : a.eval x = .slice q m c) (hz : IntS w q m zs) (h1 : n + m ≤ 100000) (hbase : base ≤ w.heap.size)
    (h : ∀ v' w', w'.ownsRow base 3 1 v' (n + m) (xs ++ ints zs) → w.grownBy w' v.ownBlock → wpList Tryz.prog ops Q rest (a.put o.dst v') w') : wpList Tryz.prog ops Q (o :: rest) a w := by
  refine wpList_plain hgd fun K hK => ?_
  obtain ⟨v', w', hr, h2, h3⟩ := run_append_ints (ty := o.type) base v n xs hown q m c zs hz h1 hbase
  unfold Oper.wp execOp
  simp only [ho, resolve, invoke, builtin, Sem.run_bind, Sem.run_pure, Result.andThen_ok, List.map_toArray, List.map_cons, List.map_nil, hs, hx, hr]
  exact hK _ _ (h v' w' h2 h3)
theorem step_ints {w : World} {o : Oper} {a : Act} {K : Act → World → Prop} {Q : Exit → Act → World → Prop} (s x : Operand) (ho : o.op = .call { callee := .builtin .append, args := #[s, x], argTypes := #[23, 23] })
    (base : Nat) (v : Value) (n : Nat) (xs : List Value) (hs : a.eval s = v) (hown : w.ownsRow base 3 1 v n xs) (q : Option Addr) (m c : Nat) (zs : List Int) (hx : a.eval x = .slice q m c) (hz : IntS w q m zs) (h1 : n + m ≤ 100000) (hbase : base ≤ w.heap.size)
    (h : ∀ v' w', w'.ownsRow base 3 1 v' (n + m) (xs ++ ints zs) → w.grownBy w' v.ownBlock → K (a.put o.dst v') w') : Oper.wp Tryz.prog o a w K Q := by
  obtain ⟨v', w', hr, h2, h3⟩ := run_append_ints (ty := o.type) base v n xs hown q m c zs hz h1 hbase
  unfold Oper.wp
  simp [execOp, ho, resolve, invoke, builtin, hs, hx, hr, Result.andThen]
  exact h v' w' h2 h3
theorem own_empty' {w : World} {g base : Nat} (h : w.heap[g]? = some (.cells #[] 3 (0, 0))) (hb : base ≤ g) : w.ownsRow base 3 1 (.slice (some ⟨g, 0, none⟩) 0 0) 0 [] :=
  ⟨by simp, .inr ⟨g, 0, #[], rfl, hb, h, Nat.le_refl _, by unfold maxLen; omega, rfl, by simp⟩⟩
set_option maxHeartbeats 1000000 in
set_option maxRecDepth 100000 in
theorem cloneI_c (q : Option Addr) (m c : Nat) (zs : List Int) (w : World) (hz : IntS w q m zs) (h1 : m ≤ 1000) :
    Calls Tryz.prog 38 #[.slice q m c] w fun e w' => ∃ p cp, e = .returned (.slice p m cp) ∧ w'.ownsRow w.heap.size 3 1 (.slice p m cp) m (ints zs) ∧ Gr w w' := by
  have hq : ∀ (w : World) (a : Option Addr) (n c n' c' : Nat), (binOp .eql 23 (.slice a n c) (.slice none n' c')).run Tryz.prog w = .ok (.bool a.isNone) w := fun w a n c n' c' => Lib.run_eql_slice_nil w _ _ a n c n' c' Tryz.underlying23
  cases q with
  | none =>
    have hm : m = 0 := by
      rcases Nat.eq_zero_or_pos m with h0 | h0
      · exact h0
      · obtain ⟨_, _, e, _⟩ := hz.out h0; cases e
    subst hm
    have hzz : zs = [] := List.eq_nil_of_length_eq_zero hz.len
    subst hzz
    clear hz
    go_enter Tryz.func38, Tryz.ntmps38
    go_wp2_with fail
    go_ret
    exact ⟨none, 0, rfl, World.ownsRow_nil _ _ _ _, Gr.refl _⟩
  | some ad =>
    have HZ := Lib.hid (hz.gr ((Gr.refl w).alloc (.cells #[] 3)))
    have HE := Lib.hid (own_empty' (base := w.heap.size) (heap_alloc_new w (.cells #[] 3)) (Nat.le_refl _))
    have HS : Hid (w.heap.size ≤ (w.alloc (.cells #[] 3)).heap.size) := ((Gr.refl w).alloc (.cells #[] 3)).size
    clear hz
    go_enter Tryz.func38, Tryz.ntmps38
    go_wp2_with (first
      | (at_builtin; refine wpList_append_ints rfl _ _ rfl w.heap.size _ 0 [] rfl HE.out (some ad) m c zs rfl HZ.out (by omega) HS.out ?_; intro v1 w1 hown1 hgrow1; rw [Nat.zero_add, List.nil_append] at hown1; obtain ⟨p1, cc1, rfl, _, _⟩ := own_shape hown1; have C1 := Lib.hid hown1; have C2 : Hid (Gr w w1) := Below.grown ((Gr.refl w).alloc (.cells #[] 3)) hgrow1 HS.out (fun j hj => (own_in HE.out hj).2); clear hown1 hgrow1))
    go_ret
    exact ⟨p1, cc1, rfl, C1.out, C2.out⟩
theorem growI_zero (w : World) :
    Calls Tryz.prog 120 #[.slice none 0 0, .int .i64 0] w fun e w' => ∃ v, e = .returned v ∧ w'.ownsRow w.heap.size 3 1 v 0 [] ∧ Gr w w' := by
  go_enter Tryz.func120, Tryz.ntmps120
  go_wp2_with fail
  go_ret
  exact ⟨_, rfl, World.ownsRow_nil _ _ _ _, Gr.refl _⟩
set_option maxHeartbeats 1000000 in
set_option maxRecDepth 100000 in
theorem growI_pos (l : Nat) (w : World) (h0 : 0 < l) (hl : l ≤ 1000) :
    Calls Tryz.prog 120 #[.slice none 0 0, .int .i64 l] w fun e w' => ∃ v, e = .returned v ∧ w'.ownsRow w.heap.size 3 1 v 0 [] ∧ Gr w w' := by
  obtain ⟨i0, hi, hz0, hz1, hz2⟩ := info_parts info3
  have h1 : (0 : Int) < l := by omega
  go_enter Tryz.func120, Tryz.ntmps120
  go_wp2_with (first
    | (at_builtin; refine wpList_append_made rfl _ _ 23 3 rfl 3 .i64 i0 (.int .i64 0) 1 Tryz.underlying23 hi Tryz.underlying3 hz0 hz1 rfl (by rw [hz2]; decide) l h0 (by omega) rfl .i64 rfl ?_; intro N C hN hM hC))
  go_ret
  refine ⟨_, rfl, ⟨rfl, .inr ⟨w.heap.size, N, C, rfl, Nat.le_refl _, heap_alloc_new w _, Nat.zero_le _, hM, hC, by simp⟩⟩, ((Gr.refl w).alloc _).drew⟩
theorem growI_c (z : Int) (l : Nat) (hz : z = l) (w : World) (hl : l ≤ 1000) :
    Calls Tryz.prog 120 #[.slice none 0 0, .int .i64 z] w fun e w' => ∃ v, e = .returned v ∧ w'.ownsRow w.heap.size 3 1 v 0 [] ∧ Gr w w' := by
  subst hz
  rcases Nat.eq_zero_or_pos l with rfl | h0
  · exact growI_zero w
  · exact growI_pos l w h0 hl
set_option maxHeartbeats 1000000 in
set_option maxRecDepth 100000 in
theorem concatI_c (z1 z2 : List Int) (D m1 m2 c1 c2 cap : Nat) (q1 q2 : Option Addr) (w : World) (hl1 : m1 ≤ 400) (hl2 : m2 ≤ 400)
    (hD0 : w.cell? ⟨D, 0, none⟩ = some (.slice q1 m1 c1)) (hD1 : w.cell? ⟨D, 1, none⟩ = some (.slice q2 m2 c2)) (h1 : IntS w q1 m1 z1) (h2 : IntS w q2 m2 z2) :
    Calls Tryz.prog 77 #[.slice (some ⟨D, 0, none⟩) 2 cap] w fun e w' => ∃ p cp, e = .returned (.slice p (m1 + m2) cp) ∧ w'.ownsRow w.heap.size 3 1 (.slice p (m1 + m2) cp) (m1 + m2) (ints (z1 ++ z2)) ∧ Gr w w' := by
  have hG := fun W => growI_c ((m1 : Int) + m2) (m1 + m2) (by omega) W (by omega)
  have HG := Lib.hid hG
  have H1 := Lib.hid h1
  have H2 := Lib.hid h2
  have hw1 : IntKind.i64.wrap ((m1 : Int) + m2) = m1 + m2 := by rw [IntKind.wrap_i64]; omega
  have hw0 : IntKind.i64.wrap (m1 : Int) = m1 := by rw [IntKind.wrap_i64]; omega
  have hn1 : ¬ ((m1 : Int) < 0) := by omega
  have hn2 : ¬ ((m1 : Int) + m2 < 0) := by omega
  clear hG h1 h2
  go_enter Tryz.func77, Tryz.ntmps77
  go_wp2_with fail
  refine wp_loop_rounds 3 ?_
  rw [rounds_succ]
  go_wp2_with fail
  rw [rounds_succ]
  go_wp2_with fail
  rw [rounds_succ]
  go_wp2_with fail
  have E1 := Lib.hid hD1
  refine (HG.out _).mono ?_
  rintro e W1 ⟨v, rfl, hown, hg⟩
  replace hD0 := hg.cell hD0
  replace hD1 := hg.cell hD1
  have hs1 := hg.size
  go_wp2_with fail
  refine wp_loop_rounds 3 ?_
  rw [rounds_succ]
  go_wp2_with (first
    | (at_builtin; refine wpList_append_ints rfl _ _ rfl w.heap.size _ _ _ rfl hown q1 m1 c1 z1 rfl (H1.out.gr hg) (by omega) hs1 ?_; intro v1 w1 hown1 hgrow1))
  have hb : Gr w w1 := Below.grown hg hgrow1 hs1 (fun j hj => (hown.lt j hj).1)
  have hd1 := hb.cell E1.out
  have hs2 := hb.size
  clear hgrow1 hD0 hD1
  rw [rounds_succ]
  go_wp2_with (first
    | (at_builtin; refine wpList_append_ints rfl _ _ rfl w.heap.size _ _ _ rfl hown1 q2 m2 c2 z2 rfl (H2.out.gr hb) (by omega) hs2 ?_; intro v2 w2 hown2 hgrow2))
  have hb2 : Gr w w2 := Below.grown hb hgrow2 hs2 (fun j hj => (hown1.lt j hj).1)
  clear hgrow2
  rw [rounds_succ]
  go_wp2_with fail
  go_ret
  rw [Nat.zero_add, List.nil_append, ← ints_append] at hown2
  obtain ⟨p1, cc1, rfl, _, _⟩ := own_shape hown2
  exact ⟨p1, cc1, rfl, hown2, hb2⟩
end Go.Proofs.YtcnpmebihdonoaaGreatDoor
