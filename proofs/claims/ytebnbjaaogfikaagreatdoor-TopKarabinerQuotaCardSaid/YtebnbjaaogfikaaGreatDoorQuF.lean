/- Quotas: the places that are given. -/
import Derived.Test.YtebnbjaaogfikaaGreatDoorQuE
import Derived.WalkMore
namespace Go.Proofs.YtebnbjaaogfikaaGreatDoor
open Go.RowKit Go.Lib
set_option linter.unusedSimpArgs false
set_option linter.unusedVariables false
/-- a list of a quota: its name, its count, its entries -/
structure LiR where
  nm : ByteArray
  ct : Int
  u : Value
  es : List QenR
structure LiAt (w : World) (b off : Nat) (x : LiR) : Prop where
  nm : w.cell? ⟨b, off, none⟩ = some (.string x.nm)
  ct : w.cell? ⟨b, off + 1, none⟩ = some (.int .i64 x.ct)
  u : w.cell? ⟨b, off + 2, none⟩ = some x.u
  es : QenAts w x.u x.es
theorem LiAt.gr {w w' : World} {b off : Nat} {x : LiR} (h : LiAt w b off x) (k : Gr w w') : LiAt w' b off x := ⟨k.cell h.nm, k.cell h.ct, k.cell h.u, h.es.gr k⟩
def liV (x : LiR) : Value := .agg #[.string x.nm, .int .i64 x.ct, x.u]
/-- the slice v reads as these -/
structure LiAts (w : World) (v : Value) (xs : List LiR) : Prop where
  mk' ::
  out : ∃ p cap, v = .slice p xs.length cap ∧ (xs.length ≤ cap ∧ cap ≤ maxLen) ∧ (0 < xs.length → ∃ b off, p = some ⟨b, off, none⟩ ∧ ∀ i x, xs[i]? = some x → LiAt w b (off + i * 3) x)
theorem LiAts.gr {w w' : World} {v : Value} {xs : List LiR} (h : LiAts w v xs) (k : Gr w w') : LiAts w' v xs := by
  obtain ⟨⟨p, cap, rfl, hcap, hh⟩⟩ := h
  refine ⟨p, cap, rfl, hcap, fun h0 => ?_⟩
  obtain ⟨b, off, h1, h2⟩ := hh h0
  exact ⟨b, off, h1, fun i x hx => (h2 i x hx).gr k⟩
/-- one entry of a rule: what is left of its places, and those given -/
def stepQ (out : List ByteArray) (cap : Int) (r : Nat) (s : Int × List PlQ) (x : QenR) : Int × List PlQ := if s.1 = 0 then s else if permQ out cap s.2 x then (s.1 - 1, s.2 ++ [(x, r)]) else s
def ruleQ (out : List ByteArray) (cap : Int) (r : Nat) (l : LiR) (P : List PlQ) : List PlQ := (l.es.foldl (stepQ out cap r) (l.ct, P)).2
def giveQ (out : List ByteArray) (cap : Int) : List LiR → Nat → List PlQ → List PlQ
  | [], _, P => P
  | l :: ls, r, P => giveQ out cap ls (r + 1) (ruleQ out cap r l P)
theorem stepQ_zero (out : List ByteArray) (cap : Int) (r : Nat) (P : List PlQ) : ∀ l : List QenR, l.foldl (stepQ out cap r) (0, P) = (0, P)
  | [] => rfl
  | x :: l => by
    rw [List.foldl_cons, show stepQ out cap r (0, P) x = (0, P) from by unfold stepQ; rw [if_pos rfl]]
    exact stepQ_zero out cap r P l
theorem foldQ_take {out : List ByteArray} {cap : Int} {r : Nat} {l : List QenR} {j : Nat} {y : QenR} (h : l[j]? = some y) (s : Int × List PlQ) : (l.take (j + 1)).foldl (stepQ out cap r) s = stepQ out cap r ((l.take j).foldl (stepQ out cap r) s) y := by
  rw [List.take_add_one, h]
  simp
theorem foldQ_all {out : List ByteArray} {cap : Int} {r : Nat} {l : List QenR} {j : Nat} {s : Int × List PlQ} {P : List PlQ} (h : (l.take j).foldl (stepQ out cap r) s = (0, P)) : l.foldl (stepQ out cap r) s = (0, P) := by
  conv => lhs; rw [← List.take_append_drop j l]
  rw [List.foldl_append, h, stepQ_zero]
theorem natQ_le (P : List PlQ) (s : ByteArray) : natQ P s ≤ P.length := List.length_filter_le _ _
theorem infoPl : (Tryz.prog.info? 48).map (fun i => (i.zero, i.size, i.bytes)) = some (some (.agg #[.string ⟨#[]⟩, .int .i64 0]), 2, 24) := by kernel_rfl
theorem shape_own {w : World} {b n : Nat} {T : TypeId} {v : Value} {l : List Value} {s : Nat} (h : w.ownsRow b T s v n l) : ∃ p c, v = .slice p n c := by
  rcases h.2 with ⟨rfl, rfl⟩ | ⟨g, cap, cur, rfl, _⟩
  · exact ⟨none, 0, rfl⟩
  · exact ⟨_, cap, rfl⟩
theorem own_gr2 {w w' : World} {b s n : Nat} {T : TypeId} {v : Value} {l : List Value} (h : w.ownsRow b T s v n l) (k : Gr w w') : w'.ownsRow b T s v n l := own_same2 h fun g hg => Below.block k g (own_in2 h hg).1
set_option maxRecDepth 10000 in
/-- append of a place, as an operation of a drawn region -/
theorem step_place {w : World} {o : Oper} {a : Act} {K : Act → World → Prop} {Q : Exit → Act → World → Prop} (s x : Operand) (ho : o.op = .call { callee := .builtin .append, args := #[s, x], argTypes := #[43, 43] })
    (base : Nat) (v : Value) (P : List PlQ) (p : PlQ) (n : Nat) (hn : P.length = n) (hs : a.eval s = v) (hown : w.ownsRow base 48 2 v n (pqCs P)) (g c : Nat) (hx : a.eval x = .slice (some ⟨g, 0, none⟩) 1 c)
    (h0 : w.cell? ⟨g, 0, none⟩ = some (.string p.1.cl)) (h1 : w.cell? ⟨g, 1, none⟩ = some (.int .i64 (p.2 : Int))) (hb : n ≤ 5000) (hbase : base ≤ w.heap.size)
    (h : ∀ v' w', w'.ownsRow base 48 2 v' (n + 1) (pqCs (P ++ [p])) → w.grownBy w' v.ownBlock → (v'.ownBlock = v.ownBlock ∨ v'.ownBlock = some w.heap.size) → K (a.put o.dst v') w') : Oper.wp Tryz.prog o a w K Q := by
  obtain ⟨i1, hj, hy0, hy1, hy2⟩ := info_parts infoPl
  obtain ⟨v', w', hr, h2, h3, h4, h5⟩ := run_append_own_at (P := Tryz.prog) w base 43 o.type 48 i1 (.agg #[.string ⟨#[]⟩, .int .i64 0]) 2 24 Tryz.underlying43 hj hy0 hy1 hy2 rfl (by decide) v n (pqCs P) hown ⟨g, 0, none⟩ 1 c (pqC p) (by simp [pqC])
    (fun j u hu => by
      have e : (⟨g, 0, none⟩ : Addr).add j = ⟨g, j, none⟩ := by unfold Addr.add; split <;> simp_all
      rw [e]
      unfold pqC at hu
      rcases j with _ | _ | j <;> simp at hu <;> subst hu <;> assumption)
    (fun u hu => by unfold pqC at hu; simp at hu; rcases hu with rfl | rfl <;> rfl) (by unfold maxLen; omega) (by omega) hbase
  rw [← pqCs_add] at h2
  unfold Oper.wp
  simp [execOp, ho, resolve, invoke, builtin, hs, hx, hr, Result.andThen]
  exact h v' w' h2 h3 h5
/-- the copies of the entry and of the place that a round makes -/
structure Bks (w : World) (YB PB : Nat) (y : QenR) (i : Nat) : Prop where
  yb : w.heap[YB]? = some (.cells #[.string y.cl, .string y.na] 42 (0, 0))
  pb : w.heap[PB]? = some (.cells #[.string y.cl, .int .i64 (i : Int)] 48 (0, 0))
theorem Bks.cells {w : World} {YB PB : Nat} {y : QenR} {i : Nat} (h : Bks w YB PB y i) : w.cell? ⟨YB, 0, none⟩ = some (.string y.cl) ∧ w.cell? ⟨YB, 1, none⟩ = some (.string y.na) ∧ w.cell? ⟨PB, 0, none⟩ = some (.string y.cl) ∧ w.cell? ⟨PB, 1, none⟩ = some (.int .i64 (i : Int)) := by
  refine ⟨?_, ?_, ?_, ?_⟩
  · rw [cell_of_row w YB _ _ _ (0, 0) h.yb]; rfl
  · rw [cell_of_row w YB _ _ _ (0, 0) h.yb]; rfl
  · rw [cell_of_row w PB _ _ _ (0, 0) h.pb]; rfl
  · rw [cell_of_row w PB _ _ _ (0, 0) h.pb]; rfl
theorem Bks.gr {w w' : World} {YB PB : Nat} {y : QenR} {i : Nat} (h : Bks w YB PB y i) (k : Gr w w') : Bks w' YB PB y i := ⟨k.block h.yb, k.block h.pb⟩
theorem entry_ne : (48 : TypeId) ≠ 42 := by decide
theorem aw_entry_ne : (71 : TypeId) ≠ 42 := by decide
theorem ne_types {w : World} {a b : Nat} {ca cb : Array Value} {Ta Tb : TypeId} {fa fb : Nat × Nat} (ha : w.heap[a]? = some (.cells ca Ta fa)) (hb : w.heap[b]? = some (.cells cb Tb fb)) (h : Ta ≠ Tb) : a ≠ b := by
  intro e
  subst e
  rw [ha] at hb
  cases hb
  exact h rfl
theorem place_step {W0 V w1 : World} {A : Nat} {lv : Value} {cap : Int} {out : List ByteArray} {P Ph Pn : List PlQ} {mo mh mn : Nat} {pv pv1 : Value} {YB PB i : Nat} {y : QenR} {o : Obj} (h : AwX V W0.heap.size A lv cap out P Ph Pn mo mh mn pv) (k : Gr W0 V) (hb : Bks V YB PB y i) (hnp : pv.ownBlock ≠ some PB)
    (ho : w1.ownsRow W0.heap.size 48 2 pv1 (P.length + 1) (pqCs (P ++ [(y, i)]))) (hg : (V.alloc o).grownBy w1 pv.ownBlock) (hat : pv1.ownBlock = pv.ownBlock ∨ pv1.ownBlock = some (V.alloc o).heap.size) :
    w1.cell? ⟨A, 3, none⟩ = some pv ∧ w1.frozen? ⟨A, 3, none⟩ = false ∧ Bks w1 YB PB y i ∧ AwX (w1.setCell ⟨A, 3, none⟩ pv1) W0.heap.size A lv cap out (P ++ [(y, i)]) Ph Pn mo mh mn pv1 ∧ Bks (w1.setCell ⟨A, 3, none⟩ pv1) YB PB y i ∧ Gr W0 (w1.setCell ⟨A, 3, none⟩ pv1) := by
  have ka : Gr V (V.alloc o) := (Gr.refl V).alloc o
  have hA := h.gr ka
  have hB := hb.gr ka
  obtain ⟨s1, s2, s3⟩ := hA.place (y, i) hg ho hat
  have b1 : Bks w1 YB PB y i := by
    refine ⟨?_, ?_⟩
    · rw [hg.block YB (Array.getElem?_eq_some_iff.1 hB.yb).1 (fun e => own_ne_cells hA.own hB.yb entry_ne e.symm)]; exact hB.yb
    · rw [hg.block PB (Array.getElem?_eq_some_iff.1 hB.pb).1 (fun e => hnp e.symm)]; exact hB.pb
  refine ⟨s1, s2, b1, s3, ⟨?_, ?_⟩, ?_⟩
  · rw [heap_setCell_other _ _ _ _ (show YB ≠ A from (ne_types hA.blk hB.yb aw_entry_ne).symm)]; exact b1.yb
  · rw [heap_setCell_other _ _ _ _ (show PB ≠ A from (ne_types hA.blk hB.pb (Ne.symm place_ne)).symm)]; exact b1.pb
  · refine Below.setCell (Below.grown (k.trans ka) hg ?_ (fun j hj => (own_in2 hA.own hj).2)) (p := ⟨A, 3, none⟩) h.low.1 pv1
    exact (k.trans ka).size
theorem Bks.put {w : World} {YB PB : Nat} {y : QenR} {i : Nat} (h : Bks w YB PB y i) {g : Nat} {ob : Obj} (hm : ∃ es c, w.heap[g]? = some (.map es c)) : Bks (putGB w g ob) YB PB y i := by
  obtain ⟨es, c, hm⟩ := hm
  refine ⟨?_, ?_⟩
  · rw [putGB_other _ _ _ _ (fun e => by subst e; rw [h.yb] at hm; cases hm)]; exact h.yb
  · rw [putGB_other _ _ _ _ (fun e => by subst e; rw [h.pb] at hm; cases hm)]; exact h.pb
theorem held_step {W0 V : World} {A : Nat} {lv : Value} {cap : Int} {out : List ByteArray} {P Ph Pn : List PlQ} {mo mh mn : Nat} {pv : Value} {YB PB i : Nat} {y : QenR} (h : AwX V W0.heap.size A lv cap out P Ph Pn mo mh mn pv) (k : Gr W0 V) (hb : Bks V YB PB y i) (hy : y.cl.toList ≠ []) :
    ∃ ob, (Instr.mapUpdate 68 (.map (some mh)) (.string y.cl) (.agg #[.string y.cl, .int .i64 (i : Int)])).run Tryz.prog V = .ok () (putGB V mh ob) ∧ AwX (putGB V mh ob) W0.heap.size A lv cap out P (Ph ++ [(y, i)]) Pn mo mh mn pv ∧ Bks (putGB V mh ob) YB PB y i ∧ Gr W0 (putGB V mh ob) := by
  obtain ⟨ob, h1, h2⟩ := h.held y i hy
  obtain ⟨kh, h3, _⟩ := h.hd
  exact ⟨ob, h1, h2, hb.put h3.is_map, gr_putG k h.low.2.2.1⟩
theorem nation_step {W0 V : World} {A : Nat} {lv : Value} {cap : Int} {out : List ByteArray} {P Ph Pn : List PlQ} {mo mh mn : Nat} {pv : Value} {YB PB i : Nat} {y : QenR} (h : AwX V W0.heap.size A lv cap out P Ph Pn mo mh mn pv) (k : Gr W0 V) (hb : Bks V YB PB y i) :
    ∃ ob, (Instr.mapUpdate 69 (.map (some mn)) (.string y.na) (.int .i64 ((natQ Pn y.na : Int) + 1))).run Tryz.prog V = .ok () (putGB V mn ob) ∧ AwX (putGB V mn ob) W0.heap.size A lv cap out P Ph (Pn ++ [(y, i)]) mo mh mn pv ∧ Bks (putGB V mn ob) YB PB y i ∧ Gr W0 (putGB V mn ob) := by
  obtain ⟨ob, h1, h2⟩ := h.nation y i
  obtain ⟨kn, h3, _⟩ := h.nt
  exact ⟨ob, h1, h2, hb.put h3.is_map, gr_putG k h.low.2.2.2⟩
set_option maxHeartbeats 4000000 in
set_option maxRecDepth 100000 in
theorem give_c {W0 w : World} {A : Nat} {lv : Value} {cap : Int} {out : List ByteArray} {mo mh mn : Nat} {pv : Value} {xs : List LiR} (h : AwAt w W0.heap.size A lv cap out [] mo mh mn pv) (k : Gr W0 w) (hl : LiAts W0 lv xs) (hn16 : xs.length ≤ 16)
    (hes : ∀ l ∈ xs, l.es.length ≤ 160 ∧ 0 ≤ l.ct ∧ l.ct ≤ 160 ∧ ∀ x ∈ l.es, x.cl.toList ≠ []) :
    Calls Tryz.prog 62 #[.pointer (some ⟨A, 0, none⟩)] w fun e w' => e = .returned (.tuple #[]) ∧ (∃ pv', AwAt w' W0.heap.size A lv cap out (giveQ out cap xs 0 []) mo mh mn pv') ∧ Gr W0 w' := by
  obtain ⟨⟨p, capL, rfl, ⟨hcap, hmx⟩, hh⟩⟩ := hl
  obtain ⟨n, hn⟩ : ∃ n, n = xs.length := ⟨_, rfl⟩
  rw [← hn] at hn16 hcap hh h ⊢
  have HH := Lib.hid hh
  have HN := Lib.hid hn
  have HES := Lib.hid hes
  have c0 := h.cells.1
  have HA0 := Lib.hid h
  have HG0 := Lib.hid k
  clear h k hh hn hes
  go_enter Tryz.func62, Tryz.ntmps62
  go_wp2_with fail
  go_step3
  go_wp2_with fail
  go_step3
  go_wp2_with fail
  clear c0
  go_loopg [2, 3, 4, 6, 7, 14] n (fun gk s2 s3 s4 s6 s7 s14 wr => ∃ (i : Nat) (P : List PlQ) (pvv : Value), s14 = .int .i64 i ∧ gk + i = n ∧ Hid (AwAt wr W0.heap.size A (.slice p n capL) cap out P mo mh mn pvv) ∧ Hid (Gr W0 wr) ∧ Hid (giveQ out cap (xs.drop i) i P = giveQ out cap xs 0 []) ∧ Hid (P.length ≤ i * 160))
  case atStart => exact ⟨0, [], pv, rfl, by omega, HA0.out, HG0.out, rfl, by simp [Hid]⟩
  case round =>
    obtain ⟨i, P, pvv, rfl, hi, HAW, HGW, HF, HPl⟩ := hrel
    obtain ⟨gO, rfl⟩ : ∃ q, q = gk := ⟨gk, rfl⟩
    by_cases hlt : i < n
    · obtain ⟨x, hx⟩ : ∃ x, xs[i]? = some x := ⟨xs[i]'(by have := HN.out; omega), List.getElem?_eq_getElem _⟩
      obtain ⟨b, off, rfl, hc⟩ := HH.out (by omega)
      have hxe := (hc i x hx).es
      obtain ⟨c0, c1, c2, -⟩ := (hc i x hx).gr HGW.out
      obtain ⟨hm160, hct0, hct1, hnm⟩ := HES.out x (List.mem_of_getElem? hx)
      have HDR : Hid (∀ P', ruleQ out cap i x P = P' → giveQ out cap (xs.drop (i + 1)) (i + 1) P' = giveQ out cap xs 0 []) := fun P' e => by
        have := HF.out
        rw [List.drop_eq_getElem_cons (by have := HN.out; omega)] at this
        rw [← this, ← e]
        have e2 : xs[i]'(by have := HN.out; omega) = x := (List.getElem?_eq_some_iff.1 hx).2
        rw [e2]
        rfl
      obtain ⟨⟨pu, capu, hu, ⟨hcu, hmu⟩, hhu⟩⟩ := hxe
      obtain ⟨m, hm⟩ : ∃ m, m = x.es.length := ⟨_, rfl⟩
      rw [← hm] at hu hcu hhu hm160
      rw [hu] at c2
      have HM := Lib.hid hm
      have HHU := Lib.hid hhu
      have HNM := Lib.hid hnm
      have hii : (i : Int) < n := by omega
      obtain ⟨WB, hWB, gB, a0, a1, a2⟩ := box3 wr (.string x.nm) (.int .i64 x.ct) (.slice pu m capu) 37
      have HGB := Lib.hid (HGW.out.trans gB)
      have HAB := Lib.hid (HAW.out.gr gB)
      have HWB := Lib.hid hWB
      clear hx hc hhu hm hnm hWB gB hu
      generalize hctd : x.ct = ct0 at *
      have HCT := Lib.hid hctd
      clear hctd
      go_wp2_with fail
      rw [HWB.out]
      go_loopg [4, 6, 7, 24] m (fun gk s4 s6 s7 s24 wr => ∃ (j : Nat) (ct : Int) (P2 : List PlQ) (pv2 : Value), s24 = .int .i64 j ∧ gk + j = m ∧ s4 = .int .i64 ct ∧ 0 ≤ ct ∧ ct ≤ 160 ∧ Hid (AwAt wr W0.heap.size A (.slice (some ⟨b, off, none⟩) n capL) cap out P2 mo mh mn pv2) ∧ Hid (Gr W0 wr) ∧ Hid ((x.es.take j).foldl (stepQ out cap i) (x.ct, P) = (ct, P2)) ∧ Hid (P2.length ≤ i * 160 + j))
      case atStart => exact ⟨0, ct0, P, pvv, rfl, by omega, rfl, hct0, hct1, HAB.out, HGB.out, by unfold Hid; rw [HCT.out]; rfl, by have := HPl.out; unfold Hid; omega⟩
      case round =>
        obtain ⟨j, ct, P2, pv2, rfl, hgk, rfl, hc0, hc1, HAI, HGI, HFI, HPI⟩ := hrel
        by_cases hjl : j < m
        · obtain ⟨y, hy⟩ : ∃ y, x.es[j]? = some y := ⟨x.es[j]'(by have := HM.out; omega), List.getElem?_eq_getElem _⟩
          obtain ⟨bu, offu, rfl, hcy⟩ := HHU.out (by omega)
          obtain ⟨d0, d1⟩ := (hcy j y hy).gr HGI.out
          have HYN := Lib.hid (HNM.out y (List.mem_of_getElem? hy))
          have hst := foldQ_take (out := out) (cap := cap) (r := i) hy (x.ct, P)
          rw [HFI.out] at hst
          have hji : (j : Int) < m := by omega
          obtain ⟨WY, hWY, gY, y0, y1⟩ := box2 wr (.string y.cl) (.string y.na) 42
          have HYB : Hid (WY.heap[wr.heap.size]? = some (.cells #[.string y.cl, .string y.na] 42 (0, 0))) := by unfold Hid; rw [← hWY]; exact heap_alloc_new _ _
          have HAY := Lib.hid (HAI.out.gr gY)
          have HGY := Lib.hid (HGI.out.trans gY)
          have HWY := Lib.hid hWY
          clear hcy hy hWY gY
          by_cases hcz : ct = 0
          · subst hcz
            have HEND := Lib.hid (HDR.out P2 (by unfold ruleQ; rw [foldQ_all HFI.out]))
            clear hst
            go_wp2_with fail
            rw [HWY.out]
            go_roundg (gO - 1)
            case measure => omega
            case rel => exact ⟨i + 1, P2, pv2, by go_num, by omega, HAY.out, HGY.out, HEND.out, by have := HPI.out; unfold Hid; omega⟩
          · have hcz2 : (ct == 0) = false := by simpa using hcz
            have hcw : IntKind.i64.wrap (ct - 1) = ct - 1 := by rw [IntKind.wrap_i64]; omega
            have hst2 : stepQ out cap i (ct, P2) y = if permQ out cap P2 y then (ct - 1, P2 ++ [(y, i)]) else (ct, P2) := by unfold stepQ; rw [if_neg hcz]
            rw [hst2] at hst
            have HPM := Lib.hid (fun W h => permits_c (w := W) (base := W0.heap.size) (A := A) (lv := .slice (some ⟨b, off, none⟩) n capL) (cap := cap) (out := out) (P := P2) (mo := mo) (mh := mh) (mn := mn) (pv := pv2) h y)
            unfold qenV at HPM
            cases hq : permQ out cap P2 y
            · rw [hq] at hst
              have HSTEP := Lib.hid hst
              simp only [hq] at HPM
              clear hst hst2
              go_wp2_with fail
              rw [HWY.out]
              refine (HPM.out _ HAY.out).mono ?_
              rintro e WP ⟨rfl, hg⟩
              have HAP := Lib.hid (HAY.out.gr hg)
              have HGP := Lib.hid (HGY.out.trans hg)
              clear hg
              go_wp2_with fail
              go_roundg (gk - 1)
              case measure => omega
              case rel => exact ⟨j + 1, ct, P2, pv2, by go_num, by omega, rfl, by omega, by omega, HAP.out, HGP.out, HSTEP.out, by have := HPI.out; unfold Hid; omega⟩
            · rw [hq] at hst
              have HSTEP := Lib.hid hst
              simp only [hq] at HPM
              clear hst hst2
              go_wp2_with fail
              rw [HWY.out]
              refine (HPM.out _ HAY.out).mono ?_
              rintro e WX ⟨rfl, hg⟩
              have hyb := hg.block HYB.out
              replace y0 := hg.cell y0
              replace y1 := hg.cell y1
              have HAX := Lib.hid (HAY.out.gr hg)
              have HGX := Lib.hid (HGY.out.trans hg)
              have HNP : Hid (pv2.ownBlock ≠ some WX.heap.size) := fun e => by
                have := (own_in2 HAX.out.own e).1
                omega
              have HBK : Hid (Bks (WX.alloc (.cells #[.string y.cl, .int .i64 (i : Int)] 48)) wr.heap.size WX.heap.size y i) := ⟨((Gr.refl WX).alloc _).block hyb, heap_alloc_new _ _⟩
              have HAW := Lib.hid (HAX.out.gr ((Gr.refl WX).alloc (.cells #[.string y.cl, .int .i64 (i : Int)] 48)))
              have HGW := Lib.hid (HGX.out.alloc (.cells #[.string y.cl, .int .i64 (i : Int)] 48))
              have HPL : Hid (P2.length ≤ 3000) := by have := HPI.out; unfold Hid; omega
              clear hyb hg HAX HGX HAY HGY HAI HGI HAB HGB
              go_wp2_with fail
              generalize WX.alloc (.cells #[.string y.cl, .int .i64 (i : Int)] 48) = WP at *
              generalize WX.heap.size = PB at *
              generalize wr.heap.size = YB at *
              have HAV := Lib.hid (HAW.out.gr ((Gr.refl WP).drew))
              have HGV := Lib.hid (HGW.out.drew)
              have HBV := Lib.hid (HBK.out.gr ((Gr.refl WP).drew))
              refine wp_region_held_drew (S := (fun w' => (w'.cell? ⟨YB, 0, none⟩ = some (.string y.cl) ∧ w'.cell? ⟨YB, 1, none⟩ = some (.string y.na) ∧ w'.cell? ⟨PB, 0, none⟩ = some (.string y.cl) ∧ w'.cell? ⟨PB, 1, none⟩ = some (.int .i64 (i : Int))))) (by kernel_rfl) HBV.out.cells (fun hHeld => ?_)
              generalize WP.drew = V at *
              have c3 := HAV.out.cells.2.2.2.1
              refine wpAnyH_take (i := 0) (v := (.pointer (some ⟨A, 0, none⟩))) (op_at rfl) (by kernel_rfl) (by kernel_rfl) (by kernel_rfl) (fun _ _ _ h => h) (Or.inl ⟨rfl, fun w hSw => ?_⟩) (by assumption) ?_
              · (try dsimp only at hSw); go_simp; try with_reducible rfl
              (try simp only [Act.put, List.setIfInBounds_toArray, List.set_cons_zero, List.set_cons_succ])
              refine wpAnyH_take (i := 1) (v := (.pointer (some ⟨A, 0, none⟩))) (op_at rfl) (by kernel_rfl) (by kernel_rfl) (by kernel_rfl) (fun _ _ _ h => h) (Or.inl ⟨rfl, fun w hSw => ?_⟩) (by assumption) ?_
              · (try dsimp only at hSw); go_simp; try with_reducible rfl
              (try simp only [Act.put, List.setIfInBounds_toArray, List.set_cons_zero, List.set_cons_succ])
              refine wpAnyH_take (i := 2) (v := (.pointer (some ⟨A, 0, none⟩))) (op_at rfl) (by kernel_rfl) (by kernel_rfl) (by kernel_rfl) (fun _ _ _ h => h) (Or.inl ⟨rfl, fun w hSw => ?_⟩) (by assumption) ?_
              · (try dsimp only at hSw); go_simp; try with_reducible rfl
              (try simp only [Act.put, List.setIfInBounds_toArray, List.set_cons_zero, List.set_cons_succ])
              refine wpAnyH_take (i := 3) (v := (.pointer (some ⟨A, 3, none⟩))) (op_at rfl) (by kernel_rfl) (by kernel_rfl) (by kernel_rfl) (fun _ _ _ h => h) (Or.inl ⟨rfl, fun w hSw => ?_⟩) (by assumption) ?_
              · (try dsimp only at hSw); go_simp; try with_reducible rfl
              (try simp only [Act.put, List.setIfInBounds_toArray, List.set_cons_zero, List.set_cons_succ])
              refine wpAnyH_take (i := 5) (v := (.agg #[.string y.cl, .int .i64 (i : Int)])) (op_at rfl) (by kernel_rfl) (by kernel_rfl) (by kernel_rfl) (fun _ _ _ h => h) (Or.inl ⟨rfl, fun w hSw => ?_⟩) (by assumption) ?_
              · (try dsimp only at hSw); go_simp; try with_reducible rfl
              (try simp only [Act.put, List.setIfInBounds_toArray, List.set_cons_zero, List.set_cons_succ])
              refine wpAnyH_ready (rs := [4, 6]) (by kernel_rfl) (by simp) (AllReadyH.cons (op_at rfl) (fun K hK => ?_) (AllReadyH.cons (op_at rfl) (fun K hK => ?_) AllReadyH.nil))
              · go_simp
                refine hK.out _ _ hHeld (fun hHeld => ?_)
                clear hK K
                (try simp only [Act.put, List.setIfInBounds_toArray, List.set_cons_zero, List.set_cons_succ])
                refine wpAnyH_ready (rs := [6]) (by kernel_rfl) (by simp) (AllReadyH.cons (op_at rfl) (fun K hK => ?_) AllReadyH.nil)
                go_simp
                refine hK.out _ _ (HBV.out.gr ((Gr.refl V).alloc _)).cells (fun hHeld => ?_)
                clear hK K
                (try simp only [Act.put, List.setIfInBounds_toArray, List.set_cons_zero, List.set_cons_succ])
                refine wpAnyH_ready (rs := [7]) (by kernel_rfl) (by simp) (AllReadyH.cons (op_at rfl) (fun K hK => ?_) AllReadyH.nil)
                rw [if_pos (show Region.wanted _ _ = true from rfl)]
                refine step_place _ _ rfl W0.heap.size pv2 P2 (y, i) P2.length rfl rfl (own_gr2 HAV.out.own ((Gr.refl V).alloc _)) V.heap.size 1 rfl (cell_new V #[.string y.cl, .int .i64 (i : Int)] _ 0 (by simp)) (cell_new V #[.string y.cl, .int .i64 (i : Int)] _ 1 (by simp)) (by have := HPL.out; omega) (by simp; have := HGV.out.size; omega) ?_
                intro v1 w1 hown1 hgrow1 hat1
                obtain ⟨pp1, cc1, rfl⟩ := shape_own hown1
                obtain ⟨s1, s2, s3, s4, s5, s6⟩ := place_step HAV.out HGV.out HBV.out HNP.out hown1 hgrow1 hat1
                have C3 := Lib.hid s3
                have C4 := Lib.hid s4
                have C5 := Lib.hid s5
                have C6 := Lib.hid s6
                clear s3 s4 s5 s6 hown1 hgrow1 hat1
                refine hK.out _ _ C3.out.cells (fun hHeld => ?_)
                clear hK K
                (try simp only [Act.put, List.setIfInBounds_toArray, List.set_cons_zero, List.set_cons_succ])
                refine wpAnyH_take (i := 8) (v := (.pointer (some ⟨A, 0, none⟩))) (op_at rfl) (by kernel_rfl) (by kernel_rfl) (by kernel_rfl) (fun _ _ _ h => h) (Or.inl ⟨rfl, fun w hSw => ?_⟩) (by assumption) ?_
                · (try dsimp only at hSw); go_simp; try with_reducible rfl
                (try simp only [Act.put, List.setIfInBounds_toArray, List.set_cons_zero, List.set_cons_succ])
                refine wpAnyH_take (i := 9) (v := (.pointer (some ⟨A, 3, none⟩))) (op_at rfl) (by kernel_rfl) (by kernel_rfl) (by kernel_rfl) (fun _ _ _ h => h) (Or.inl ⟨rfl, fun w hSw => ?_⟩) (by assumption) ?_
                · (try dsimp only at hSw); go_simp; try with_reducible rfl
                (try simp only [Act.put, List.setIfInBounds_toArray, List.set_cons_zero, List.set_cons_succ])
                refine wpAnyH_ready (rs := [10]) (by kernel_rfl) (by simp) (AllReadyH.cons (op_at rfl) (fun K hK => ?_) AllReadyH.nil)
                go_simp
                refine hK.out _ _ C5.out.cells (fun hHeld => ?_)
                clear hK K
                (try simp only [Act.put, List.setIfInBounds_toArray, List.set_cons_zero, List.set_cons_succ])
                refine wpAnyH_done (by kernel_rfl) ?_ _
                go_wp2_with fail
                generalize w1.setCell ⟨A, 3, none⟩ (.slice pp1 (P2.length + 1) cc1) = WQ at *
                clear s1 s2 c3 hHeld
                clear HAV HGV HBV HAW HGW HBK
                have HAV := Lib.hid (C4.out.gr ((Gr.refl WQ).drew))
                have HGV := Lib.hid (C6.out.drew)
                have HBV := Lib.hid (C5.out.gr ((Gr.refl WQ).drew))
                clear C3 C4 C5 C6
                have c4 := HAV.out.cells.2.2.2.2.1
                obtain ⟨ob, hput, h2, h3, h4⟩ := held_step HAV.out HGV.out HBV.out HYN.out
                have D2 := Lib.hid h2
                have D3 := Lib.hid h3
                have D4 := Lib.hid h4
                have D5 := Lib.hid h2.cells.2.2.2.2.1
                clear h2 h3 h4
                refine wp_region_held_drew (S := (fun w' => (w'.cell? ⟨YB, 0, none⟩ = some (.string y.cl) ∧ w'.cell? ⟨YB, 1, none⟩ = some (.string y.na) ∧ w'.cell? ⟨PB, 0, none⟩ = some (.string y.cl) ∧ w'.cell? ⟨PB, 1, none⟩ = some (.int .i64 (i : Int))) ∧ w'.cell? ⟨A, 4, none⟩ = some (.map (some mh)))) (by kernel_rfl) ⟨HBV.out.cells, c4⟩ (fun hHeld => ?_)
                generalize WQ.drew = VQ at *
                refine wpAnyH_take (i := 0) (v := (.pointer (some ⟨A, 0, none⟩))) (op_at rfl) (by kernel_rfl) (by kernel_rfl) (by kernel_rfl) (fun _ _ _ h => h) (Or.inl ⟨rfl, fun w hSw => ?_⟩) (by assumption) ?_
                · (try dsimp only at hSw); go_simp; try with_reducible rfl
                (try simp only [Act.put, List.setIfInBounds_toArray, List.set_cons_zero, List.set_cons_succ])
                refine wpAnyH_take (i := 1) (v := (.pointer (some ⟨A, 0, none⟩))) (op_at rfl) (by kernel_rfl) (by kernel_rfl) (by kernel_rfl) (fun _ _ _ h => h) (Or.inl ⟨rfl, fun w hSw => ?_⟩) (by assumption) ?_
                · (try dsimp only at hSw); go_simp; try with_reducible rfl
                (try simp only [Act.put, List.setIfInBounds_toArray, List.set_cons_zero, List.set_cons_succ])
                refine wpAnyH_take (i := 2) (v := (.pointer (some ⟨A, 4, none⟩))) (op_at rfl) (by kernel_rfl) (by kernel_rfl) (by kernel_rfl) (fun _ _ _ h => h) (Or.inl ⟨rfl, fun w hSw => ?_⟩) (by assumption) ?_
                · (try dsimp only at hSw); go_simp; try with_reducible rfl
                (try simp only [Act.put, List.setIfInBounds_toArray, List.set_cons_zero, List.set_cons_succ])
                refine wpAnyH_take (i := 3) (v := (.map (some mh))) (op_at rfl) (by kernel_rfl) (by kernel_rfl) (by kernel_rfl) (fun _ _ _ h => h) (Or.inl ⟨rfl, fun w hSw => ?_⟩) (by assumption) ?_
                · (try dsimp only at hSw); go_simp; try with_reducible rfl
                (try simp only [Act.put, List.setIfInBounds_toArray, List.set_cons_zero, List.set_cons_succ])
                refine wpAnyH_take (i := 4) (v := (.pointer (some ⟨YB, 0, none⟩))) (op_at rfl) (by kernel_rfl) (by kernel_rfl) (by kernel_rfl) (fun _ _ _ h => h) (Or.inl ⟨rfl, fun w hSw => ?_⟩) (by assumption) ?_
                · (try dsimp only at hSw); go_simp; try with_reducible rfl
                (try simp only [Act.put, List.setIfInBounds_toArray, List.set_cons_zero, List.set_cons_succ])
                refine wpAnyH_take (i := 5) (v := (.string y.cl)) (op_at rfl) (by kernel_rfl) (by kernel_rfl) (by kernel_rfl) (fun _ _ _ h => h) (Or.inl ⟨rfl, fun w hSw => ?_⟩) (by assumption) ?_
                · (try dsimp only at hSw); go_simp; try with_reducible rfl
                (try simp only [Act.put, List.setIfInBounds_toArray, List.set_cons_zero, List.set_cons_succ])
                refine wpAnyH_take (i := 6) (v := (.agg #[.string y.cl, .int .i64 (i : Int)])) (op_at rfl) (by kernel_rfl) (by kernel_rfl) (by kernel_rfl) (fun _ _ _ h => h) (Or.inl ⟨rfl, fun w hSw => ?_⟩) (by assumption) ?_
                · (try dsimp only at hSw); go_simp; try with_reducible rfl
                (try simp only [Act.put, List.setIfInBounds_toArray, List.set_cons_zero, List.set_cons_succ])
                refine wpAnyH_ready (rs := [7]) (by kernel_rfl) (by simp) (AllReadyH.cons (op_at rfl) (fun K hK => ?_) AllReadyH.nil)
                go_simp
                refine hK.out _ _ ⟨D3.out.cells, D5.out⟩ (fun hHeld => ?_)
                clear hK K
                (try simp only [Act.put, List.setIfInBounds_toArray, List.set_cons_zero, List.set_cons_succ])
                refine wpAnyH_done (by kernel_rfl) ?_ _
                go_wp2_with fail
                generalize putGB VQ mh ob = WR at *
                clear hput c4 hHeld HAV HGV HBV D5
                have HAV := Lib.hid (D2.out.gr ((Gr.refl WR).drew))
                have HGV := Lib.hid (D4.out.drew)
                have HBV := Lib.hid (D3.out.gr ((Gr.refl WR).drew))
                clear D2 D3 D4
                have c5 := HAV.out.cells.2.2.2.2.2
                have hlk := HAV.out.lookN y.na
                have hnw : IntKind.i64.wrap ((natQ P2 y.na : Int) + 1) = (natQ P2 y.na : Int) + 1 := by rw [IntKind.wrap_i64]; have := natQ_le P2 y.na; have := HPL.out; omega
                obtain ⟨ob2, hput, h2, h3, h4⟩ := nation_step HAV.out HGV.out HBV.out
                have D2 := Lib.hid h2
                have D3 := Lib.hid h3
                have D4 := Lib.hid h4
                have D5 := Lib.hid h2.cells.2.2.2.2.2
                clear h2 h3 h4
                generalize natQ P2 y.na = nq at *
                refine wp_region_held_drew (S := (fun w' => (w'.cell? ⟨YB, 0, none⟩ = some (.string y.cl) ∧ w'.cell? ⟨YB, 1, none⟩ = some (.string y.na) ∧ w'.cell? ⟨PB, 0, none⟩ = some (.string y.cl) ∧ w'.cell? ⟨PB, 1, none⟩ = some (.int .i64 (i : Int))) ∧ w'.cell? ⟨A, 5, none⟩ = some (.map (some mn)))) (by kernel_rfl) ⟨HBV.out.cells, c5⟩ (fun hHeld => ?_)
                generalize WR.drew = VR at *
                refine wpAnyH_take (i := 0) (v := (.pointer (some ⟨A, 0, none⟩))) (op_at rfl) (by kernel_rfl) (by kernel_rfl) (by kernel_rfl) (fun _ _ _ h => h) (Or.inl ⟨rfl, fun w hSw => ?_⟩) (by assumption) ?_
                · (try dsimp only at hSw); go_simp; try with_reducible rfl
                (try simp only [Act.put, List.setIfInBounds_toArray, List.set_cons_zero, List.set_cons_succ])
                refine wpAnyH_take (i := 1) (v := (.pointer (some ⟨A, 0, none⟩))) (op_at rfl) (by kernel_rfl) (by kernel_rfl) (by kernel_rfl) (fun _ _ _ h => h) (Or.inl ⟨rfl, fun w hSw => ?_⟩) (by assumption) ?_
                · (try dsimp only at hSw); go_simp; try with_reducible rfl
                (try simp only [Act.put, List.setIfInBounds_toArray, List.set_cons_zero, List.set_cons_succ])
                refine wpAnyH_take (i := 2) (v := (.pointer (some ⟨A, 5, none⟩))) (op_at rfl) (by kernel_rfl) (by kernel_rfl) (by kernel_rfl) (fun _ _ _ h => h) (Or.inl ⟨rfl, fun w hSw => ?_⟩) (by assumption) ?_
                · (try dsimp only at hSw); go_simp; try with_reducible rfl
                (try simp only [Act.put, List.setIfInBounds_toArray, List.set_cons_zero, List.set_cons_succ])
                refine wpAnyH_take (i := 3) (v := (.map (some mn))) (op_at rfl) (by kernel_rfl) (by kernel_rfl) (by kernel_rfl) (fun _ _ _ h => h) (Or.inl ⟨rfl, fun w hSw => ?_⟩) (by assumption) ?_
                · (try dsimp only at hSw); go_simp; try with_reducible rfl
                (try simp only [Act.put, List.setIfInBounds_toArray, List.set_cons_zero, List.set_cons_succ])
                refine wpAnyH_take (i := 4) (v := (.pointer (some ⟨YB, 1, none⟩))) (op_at rfl) (by kernel_rfl) (by kernel_rfl) (by kernel_rfl) (fun _ _ _ h => h) (Or.inl ⟨rfl, fun w hSw => ?_⟩) (by assumption) ?_
                · (try dsimp only at hSw); go_simp; try with_reducible rfl
                (try simp only [Act.put, List.setIfInBounds_toArray, List.set_cons_zero, List.set_cons_succ])
                refine wpAnyH_take (i := 5) (v := (.string y.na)) (op_at rfl) (by kernel_rfl) (by kernel_rfl) (by kernel_rfl) (fun _ _ _ h => h) (Or.inl ⟨rfl, fun w hSw => ?_⟩) (by assumption) ?_
                · (try dsimp only at hSw); go_simp; try with_reducible rfl
                (try simp only [Act.put, List.setIfInBounds_toArray, List.set_cons_zero, List.set_cons_succ])
                refine wpAnyH_ready (rs := [6]) (by kernel_rfl) (by simp) (AllReadyH.cons (op_at rfl) (fun K hK => ?_) AllReadyH.nil)
                go_simp
                refine hK.out _ _ hHeld (fun hHeld => ?_)
                clear hK K
                (try simp only [Act.put, List.setIfInBounds_toArray, List.set_cons_zero, List.set_cons_succ])
                refine wpAnyH_take (i := 7) (v := (.int .i64 ((nq : Int) + 1))) (op_at rfl) (by kernel_rfl) (by kernel_rfl) (by kernel_rfl) (fun _ _ _ h => h) (Or.inl ⟨rfl, fun w hSw => ?_⟩) (by assumption) ?_
                · (try dsimp only at hSw); go_simp; try with_reducible rfl
                (try simp only [Act.put, List.setIfInBounds_toArray, List.set_cons_zero, List.set_cons_succ])
                refine wpAnyH_ready (rs := [8]) (by kernel_rfl) (by simp) (AllReadyH.cons (op_at rfl) (fun K hK => ?_) AllReadyH.nil)
                go_simp
                refine hK.out _ _ ⟨D3.out.cells, D5.out⟩ (fun hHeld => ?_)
                clear hK K
                (try simp only [Act.put, List.setIfInBounds_toArray, List.set_cons_zero, List.set_cons_succ])
                refine wpAnyH_done (by kernel_rfl) ?_ _
                go_wp2_with fail
                generalize putGB VR mn ob2 = WS at *
                clear hput hlk c5 hHeld HAV HGV HBV D5
                go_roundg (gk - 1)
                case measure => omega
                case rel => exact ⟨j + 1, ct - 1, P2 ++ [(y, i)], _, by go_num, by omega, by go_num, by omega, by omega, D2.out, D4.out, HSTEP.out, by have := HPI.out; unfold Hid; rw [List.length_append]; simp; omega⟩
              · go_simp
                refine hK.out _ _ (HBV.out.gr ((Gr.refl V).alloc _)).cells (fun hHeld => ?_)
                clear hK K
                (try simp only [Act.put, List.setIfInBounds_toArray, List.set_cons_zero, List.set_cons_succ])
                have c3b := ((Gr.refl V).alloc (.cells #[.string y.cl, .int .i64 (i : Int)] 48)).cell c3
                refine wpAnyH_ready (rs := [4]) (by kernel_rfl) (by simp) (AllReadyH.cons (op_at rfl) (fun K hK => ?_) AllReadyH.nil)
                go_simp
                refine hK.out _ _ hHeld (fun hHeld => ?_)
                clear hK K
                (try simp only [Act.put, List.setIfInBounds_toArray, List.set_cons_zero, List.set_cons_succ])
                refine wpAnyH_ready (rs := [7]) (by kernel_rfl) (by simp) (AllReadyH.cons (op_at rfl) (fun K hK => ?_) AllReadyH.nil)
                rw [if_pos (show Region.wanted _ _ = true from rfl)]
                refine step_place _ _ rfl W0.heap.size pv2 P2 (y, i) P2.length rfl rfl (own_gr2 HAV.out.own ((Gr.refl V).alloc _)) V.heap.size 1 rfl (cell_new V #[.string y.cl, .int .i64 (i : Int)] _ 0 (by simp)) (cell_new V #[.string y.cl, .int .i64 (i : Int)] _ 1 (by simp)) (by have := HPL.out; omega) (by simp; have := HGV.out.size; omega) ?_
                intro v1 w1 hown1 hgrow1 hat1
                obtain ⟨pp1, cc1, rfl⟩ := shape_own hown1
                obtain ⟨s1, s2, s3, s4, s5, s6⟩ := place_step HAV.out HGV.out HBV.out HNP.out hown1 hgrow1 hat1
                have C3 := Lib.hid s3
                have C4 := Lib.hid s4
                have C5 := Lib.hid s5
                have C6 := Lib.hid s6
                clear s3 s4 s5 s6 hown1 hgrow1 hat1
                refine hK.out _ _ C3.out.cells (fun hHeld => ?_)
                clear hK K
                (try simp only [Act.put, List.setIfInBounds_toArray, List.set_cons_zero, List.set_cons_succ])
                refine wpAnyH_take (i := 8) (v := (.pointer (some ⟨A, 0, none⟩))) (op_at rfl) (by kernel_rfl) (by kernel_rfl) (by kernel_rfl) (fun _ _ _ h => h) (Or.inl ⟨rfl, fun w hSw => ?_⟩) (by assumption) ?_
                · (try dsimp only at hSw); go_simp; try with_reducible rfl
                (try simp only [Act.put, List.setIfInBounds_toArray, List.set_cons_zero, List.set_cons_succ])
                refine wpAnyH_take (i := 9) (v := (.pointer (some ⟨A, 3, none⟩))) (op_at rfl) (by kernel_rfl) (by kernel_rfl) (by kernel_rfl) (fun _ _ _ h => h) (Or.inl ⟨rfl, fun w hSw => ?_⟩) (by assumption) ?_
                · (try dsimp only at hSw); go_simp; try with_reducible rfl
                (try simp only [Act.put, List.setIfInBounds_toArray, List.set_cons_zero, List.set_cons_succ])
                refine wpAnyH_ready (rs := [10]) (by kernel_rfl) (by simp) (AllReadyH.cons (op_at rfl) (fun K hK => ?_) AllReadyH.nil)
                go_simp
                refine hK.out _ _ C5.out.cells (fun hHeld => ?_)
                clear hK K
                (try simp only [Act.put, List.setIfInBounds_toArray, List.set_cons_zero, List.set_cons_succ])
                refine wpAnyH_done (by kernel_rfl) ?_ _
                go_wp2_with fail
                generalize w1.setCell ⟨A, 3, none⟩ (.slice pp1 (P2.length + 1) cc1) = WQ at *
                clear s1 s2 c3 hHeld
                clear HAV HGV HBV HAW HGW HBK
                have HAV := Lib.hid (C4.out.gr ((Gr.refl WQ).drew))
                have HGV := Lib.hid (C6.out.drew)
                have HBV := Lib.hid (C5.out.gr ((Gr.refl WQ).drew))
                clear C3 C4 C5 C6
                have c4 := HAV.out.cells.2.2.2.2.1
                obtain ⟨ob, hput, h2, h3, h4⟩ := held_step HAV.out HGV.out HBV.out HYN.out
                have D2 := Lib.hid h2
                have D3 := Lib.hid h3
                have D4 := Lib.hid h4
                have D5 := Lib.hid h2.cells.2.2.2.2.1
                clear h2 h3 h4
                refine wp_region_held_drew (S := (fun w' => (w'.cell? ⟨YB, 0, none⟩ = some (.string y.cl) ∧ w'.cell? ⟨YB, 1, none⟩ = some (.string y.na) ∧ w'.cell? ⟨PB, 0, none⟩ = some (.string y.cl) ∧ w'.cell? ⟨PB, 1, none⟩ = some (.int .i64 (i : Int))) ∧ w'.cell? ⟨A, 4, none⟩ = some (.map (some mh)))) (by kernel_rfl) ⟨HBV.out.cells, c4⟩ (fun hHeld => ?_)
                generalize WQ.drew = VQ at *
                refine wpAnyH_take (i := 0) (v := (.pointer (some ⟨A, 0, none⟩))) (op_at rfl) (by kernel_rfl) (by kernel_rfl) (by kernel_rfl) (fun _ _ _ h => h) (Or.inl ⟨rfl, fun w hSw => ?_⟩) (by assumption) ?_
                · (try dsimp only at hSw); go_simp; try with_reducible rfl
                (try simp only [Act.put, List.setIfInBounds_toArray, List.set_cons_zero, List.set_cons_succ])
                refine wpAnyH_take (i := 1) (v := (.pointer (some ⟨A, 0, none⟩))) (op_at rfl) (by kernel_rfl) (by kernel_rfl) (by kernel_rfl) (fun _ _ _ h => h) (Or.inl ⟨rfl, fun w hSw => ?_⟩) (by assumption) ?_
                · (try dsimp only at hSw); go_simp; try with_reducible rfl
                (try simp only [Act.put, List.setIfInBounds_toArray, List.set_cons_zero, List.set_cons_succ])
                refine wpAnyH_take (i := 2) (v := (.pointer (some ⟨A, 4, none⟩))) (op_at rfl) (by kernel_rfl) (by kernel_rfl) (by kernel_rfl) (fun _ _ _ h => h) (Or.inl ⟨rfl, fun w hSw => ?_⟩) (by assumption) ?_
                · (try dsimp only at hSw); go_simp; try with_reducible rfl
                (try simp only [Act.put, List.setIfInBounds_toArray, List.set_cons_zero, List.set_cons_succ])
                refine wpAnyH_take (i := 3) (v := (.map (some mh))) (op_at rfl) (by kernel_rfl) (by kernel_rfl) (by kernel_rfl) (fun _ _ _ h => h) (Or.inl ⟨rfl, fun w hSw => ?_⟩) (by assumption) ?_
                · (try dsimp only at hSw); go_simp; try with_reducible rfl
                (try simp only [Act.put, List.setIfInBounds_toArray, List.set_cons_zero, List.set_cons_succ])
                refine wpAnyH_take (i := 4) (v := (.pointer (some ⟨YB, 0, none⟩))) (op_at rfl) (by kernel_rfl) (by kernel_rfl) (by kernel_rfl) (fun _ _ _ h => h) (Or.inl ⟨rfl, fun w hSw => ?_⟩) (by assumption) ?_
                · (try dsimp only at hSw); go_simp; try with_reducible rfl
                (try simp only [Act.put, List.setIfInBounds_toArray, List.set_cons_zero, List.set_cons_succ])
                refine wpAnyH_take (i := 5) (v := (.string y.cl)) (op_at rfl) (by kernel_rfl) (by kernel_rfl) (by kernel_rfl) (fun _ _ _ h => h) (Or.inl ⟨rfl, fun w hSw => ?_⟩) (by assumption) ?_
                · (try dsimp only at hSw); go_simp; try with_reducible rfl
                (try simp only [Act.put, List.setIfInBounds_toArray, List.set_cons_zero, List.set_cons_succ])
                refine wpAnyH_take (i := 6) (v := (.agg #[.string y.cl, .int .i64 (i : Int)])) (op_at rfl) (by kernel_rfl) (by kernel_rfl) (by kernel_rfl) (fun _ _ _ h => h) (Or.inl ⟨rfl, fun w hSw => ?_⟩) (by assumption) ?_
                · (try dsimp only at hSw); go_simp; try with_reducible rfl
                (try simp only [Act.put, List.setIfInBounds_toArray, List.set_cons_zero, List.set_cons_succ])
                refine wpAnyH_ready (rs := [7]) (by kernel_rfl) (by simp) (AllReadyH.cons (op_at rfl) (fun K hK => ?_) AllReadyH.nil)
                go_simp
                refine hK.out _ _ ⟨D3.out.cells, D5.out⟩ (fun hHeld => ?_)
                clear hK K
                (try simp only [Act.put, List.setIfInBounds_toArray, List.set_cons_zero, List.set_cons_succ])
                refine wpAnyH_done (by kernel_rfl) ?_ _
                go_wp2_with fail
                generalize putGB VQ mh ob = WR at *
                clear hput c4 hHeld HAV HGV HBV D5
                have HAV := Lib.hid (D2.out.gr ((Gr.refl WR).drew))
                have HGV := Lib.hid (D4.out.drew)
                have HBV := Lib.hid (D3.out.gr ((Gr.refl WR).drew))
                clear D2 D3 D4
                have c5 := HAV.out.cells.2.2.2.2.2
                have hlk := HAV.out.lookN y.na
                have hnw : IntKind.i64.wrap ((natQ P2 y.na : Int) + 1) = (natQ P2 y.na : Int) + 1 := by rw [IntKind.wrap_i64]; have := natQ_le P2 y.na; have := HPL.out; omega
                obtain ⟨ob2, hput, h2, h3, h4⟩ := nation_step HAV.out HGV.out HBV.out
                have D2 := Lib.hid h2
                have D3 := Lib.hid h3
                have D4 := Lib.hid h4
                have D5 := Lib.hid h2.cells.2.2.2.2.2
                clear h2 h3 h4
                generalize natQ P2 y.na = nq at *
                refine wp_region_held_drew (S := (fun w' => (w'.cell? ⟨YB, 0, none⟩ = some (.string y.cl) ∧ w'.cell? ⟨YB, 1, none⟩ = some (.string y.na) ∧ w'.cell? ⟨PB, 0, none⟩ = some (.string y.cl) ∧ w'.cell? ⟨PB, 1, none⟩ = some (.int .i64 (i : Int))) ∧ w'.cell? ⟨A, 5, none⟩ = some (.map (some mn)))) (by kernel_rfl) ⟨HBV.out.cells, c5⟩ (fun hHeld => ?_)
                generalize WR.drew = VR at *
                refine wpAnyH_take (i := 0) (v := (.pointer (some ⟨A, 0, none⟩))) (op_at rfl) (by kernel_rfl) (by kernel_rfl) (by kernel_rfl) (fun _ _ _ h => h) (Or.inl ⟨rfl, fun w hSw => ?_⟩) (by assumption) ?_
                · (try dsimp only at hSw); go_simp; try with_reducible rfl
                (try simp only [Act.put, List.setIfInBounds_toArray, List.set_cons_zero, List.set_cons_succ])
                refine wpAnyH_take (i := 1) (v := (.pointer (some ⟨A, 0, none⟩))) (op_at rfl) (by kernel_rfl) (by kernel_rfl) (by kernel_rfl) (fun _ _ _ h => h) (Or.inl ⟨rfl, fun w hSw => ?_⟩) (by assumption) ?_
                · (try dsimp only at hSw); go_simp; try with_reducible rfl
                (try simp only [Act.put, List.setIfInBounds_toArray, List.set_cons_zero, List.set_cons_succ])
                refine wpAnyH_take (i := 2) (v := (.pointer (some ⟨A, 5, none⟩))) (op_at rfl) (by kernel_rfl) (by kernel_rfl) (by kernel_rfl) (fun _ _ _ h => h) (Or.inl ⟨rfl, fun w hSw => ?_⟩) (by assumption) ?_
                · (try dsimp only at hSw); go_simp; try with_reducible rfl
                (try simp only [Act.put, List.setIfInBounds_toArray, List.set_cons_zero, List.set_cons_succ])
                refine wpAnyH_take (i := 3) (v := (.map (some mn))) (op_at rfl) (by kernel_rfl) (by kernel_rfl) (by kernel_rfl) (fun _ _ _ h => h) (Or.inl ⟨rfl, fun w hSw => ?_⟩) (by assumption) ?_
                · (try dsimp only at hSw); go_simp; try with_reducible rfl
                (try simp only [Act.put, List.setIfInBounds_toArray, List.set_cons_zero, List.set_cons_succ])
                refine wpAnyH_take (i := 4) (v := (.pointer (some ⟨YB, 1, none⟩))) (op_at rfl) (by kernel_rfl) (by kernel_rfl) (by kernel_rfl) (fun _ _ _ h => h) (Or.inl ⟨rfl, fun w hSw => ?_⟩) (by assumption) ?_
                · (try dsimp only at hSw); go_simp; try with_reducible rfl
                (try simp only [Act.put, List.setIfInBounds_toArray, List.set_cons_zero, List.set_cons_succ])
                refine wpAnyH_take (i := 5) (v := (.string y.na)) (op_at rfl) (by kernel_rfl) (by kernel_rfl) (by kernel_rfl) (fun _ _ _ h => h) (Or.inl ⟨rfl, fun w hSw => ?_⟩) (by assumption) ?_
                · (try dsimp only at hSw); go_simp; try with_reducible rfl
                (try simp only [Act.put, List.setIfInBounds_toArray, List.set_cons_zero, List.set_cons_succ])
                refine wpAnyH_ready (rs := [6]) (by kernel_rfl) (by simp) (AllReadyH.cons (op_at rfl) (fun K hK => ?_) AllReadyH.nil)
                go_simp
                refine hK.out _ _ hHeld (fun hHeld => ?_)
                clear hK K
                (try simp only [Act.put, List.setIfInBounds_toArray, List.set_cons_zero, List.set_cons_succ])
                refine wpAnyH_take (i := 7) (v := (.int .i64 ((nq : Int) + 1))) (op_at rfl) (by kernel_rfl) (by kernel_rfl) (by kernel_rfl) (fun _ _ _ h => h) (Or.inl ⟨rfl, fun w hSw => ?_⟩) (by assumption) ?_
                · (try dsimp only at hSw); go_simp; try with_reducible rfl
                (try simp only [Act.put, List.setIfInBounds_toArray, List.set_cons_zero, List.set_cons_succ])
                refine wpAnyH_ready (rs := [8]) (by kernel_rfl) (by simp) (AllReadyH.cons (op_at rfl) (fun K hK => ?_) AllReadyH.nil)
                go_simp
                refine hK.out _ _ ⟨D3.out.cells, D5.out⟩ (fun hHeld => ?_)
                clear hK K
                (try simp only [Act.put, List.setIfInBounds_toArray, List.set_cons_zero, List.set_cons_succ])
                refine wpAnyH_done (by kernel_rfl) ?_ _
                go_wp2_with fail
                generalize putGB VR mn ob2 = WS at *
                clear hput hlk c5 hHeld HAV HGV HBV D5
                go_roundg (gk - 1)
                case measure => omega
                case rel => exact ⟨j + 1, ct - 1, P2 ++ [(y, i)], _, by go_num, by omega, by go_num, by omega, by omega, D2.out, D4.out, HSTEP.out, by have := HPI.out; unfold Hid; rw [List.length_append]; simp; omega⟩
        · obtain rfl : j = m := by omega
          have HEND := Lib.hid (HDR.out P2 (by have := HFI.out; rw [List.take_of_length_le (by have := HM.out; omega)] at this; unfold ruleQ; rw [this]))
          go_wp2_with fail
          go_roundg (gO - 1)
          case measure => omega
          case rel => exact ⟨i + 1, P2, pv2, by go_num, by omega, HAI.out, HGI.out, HEND.out, by have := HPI.out; unfold Hid; omega⟩
    · obtain rfl : i = n := by omega
      have HEND : Hid (P = giveQ out cap xs 0 []) := by
        have := HF.out
        rw [List.drop_eq_nil_of_le (by have := HN.out; omega)] at this
        exact this
      go_wp2_with fail
      exact ⟨rfl, .tuple #[], by simp [results, Tryz.results62, go_sem], rfl, ⟨_, by rw [← HEND.out]; exact HAW.out⟩, HGW.out⟩
end Go.Proofs.YtebnbjaaogfikaaGreatDoor
