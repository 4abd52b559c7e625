/- Archives (chapter 10): the program's Lacking. -/
import Derived.Test.YtnihclhhbegjhaaGreatDoorGOvK
import Derived.RangeFuncNested
import Derived.RangeFuncBound
import Derived.RangeFuncCalls
import Derived.RangeFuncLeaves
import Derived.RangeFuncFrom
import Derived.RangeFuncWrites
import Derived.Shelf.Abstract
import Derived.Shelf.RegionOpen
import Derived.OwnWalkIn
import Derived.TacticsInMore
import Derived.LoopNIn
import Derived.LoopIn
import Derived.Deep.RegionHeld
namespace Go.Proofs.YtnihclhhbegjhaaGreatDoor
open Go.RowKit Go.Lib
set_option linter.unusedSimpArgs false
set_option linter.unusedVariables false
theorem uMapNO : Tryz.prog.underlying 83 = some (.map 9 3) := by kernel_rfl
theorem zeroNO (w : World) : (zeroValue 3).run Tryz.prog w = .ok (.int .i64 0) w := by kernel_rfl
def evNO (n : Int) : Value := .int .i64 n
structure KnO (ks : List (ByteArray × Int)) (v : List MkR) : Prop where
  at_ : ∀ d, ((lookG ks d).map evNO).getD (.int .i64 0) = .int .i64 (lastN v d)
theorem KnO.nil : KnO [] [] := ⟨fun d => by simp [lookG, lastN]⟩
theorem KnO.put {ks : List (ByteArray × Int)} {v : List MkR} {m : MkR} (h : KnO ks v) : KnO (putG ks m.de m.nu) (v ++ [m]) := ⟨fun d => by
  rw [lastN_add, lookG_putO]
  cases hd : (m.de.toList == d.toList)
  · simpa using h.at_ d
  · simp [evNO]⟩
structure RetLk (r : Ending) (w' : World) (L : List EnR) : Prop where
  mk' ::
  out : ∃ q c es, r = .returned (.tuple #[.slice q L.length c, .int .i64 0]) ∧ es.length = L.length ∧ es.map ek = L.map ek ∧ EnS w' q es ∧ (L.length ≤ c ∧ c ≤ maxLen)
set_option maxHeartbeats 4000000 in
set_option maxRecDepth 100000 in
theorem lack_ok {w : World} {q q2 : Option Addr} {l : List EnR} {v : List MkR} {n m cap cap2 : Nat} (hn : n = l.length) (h1 : n ≤ 1000) (hr : EnS w q l) (hf : Few l) (hs : ∀ e ∈ l, e.n ≤ 1000) (hm : m = v.length) (h2 : m ≤ 1000) (hv : MkS w q2 v) (he : firstE [archE l, vecE v] = 0) :
    Calls Tryz.prog 34 #[.agg #[.slice q n cap], .slice q2 m cap2] w fun e w' => RetLk e w' (lackL l v) ∧ Gr w w' := by
  have HCA := Lib.hid (fun V (g : Gr w V) => checkArch_c (cap := cap) hn h1 (hr.gr g) hf)
  have HCV := Lib.hid (fun V (g : Gr w V) => checkVec_c (cap := cap2) hm h2 (hv.gr g))
  have HFI := Lib.hid (fun b cap w => first_two (archE l) (vecE v) b cap w)
  rw [he] at HFI
  generalize archE l = z1 at *
  generalize vecE v = z2 at *
  obtain ⟨i0, hi, hz0, hz1, hz2⟩ := info_parts infoEnP
  have HI0 := Lib.hid (And.intro hi (And.intro hz0 (And.intro hz1 hz2)))
  have HN := Lib.hid hn
  have HM := Lib.hid hm
  have HR := Lib.hid hr.out
  have HV := Lib.hid hv.out
  have HFW := Lib.hid hf
  have HSS := Lib.hid hs
  obtain ⟨W1, hW1, g1, a0⟩ := box1 w (.slice q n cap) 24
  have HW := Lib.hid hW1
  clear hW1 hr hf hs hv hn hm he hi hz0 hz1 hz2
  go_enter Tryz.func34, Tryz.ntmps34
  go_wp2_with fail
  rw [HW.out]
  clear HW
  go_wp2_with fail
  refine (HCA.out _ g1).mono ?_
  rintro e W2 ⟨rfl, hg2⟩
  replace a0 := hg2.cell a0
  replace g1 := g1.trans hg2
  clear hg2
  go_wp2_with fail
  refine (HCV.out _ g1).mono ?_
  rintro e W3 ⟨rfl, hg3⟩
  replace a0 := hg3.cell a0
  replace g1 := g1.trans hg3
  clear hg3
  obtain ⟨W4, hW4, g4, q0, q1⟩ := box2v W3 (.int .i64 z1) (.int .i64 z2) 37
  have HW4 := Lib.hid hW4
  clear hW4
  go_wp2_with fail
  rw [HW4.out]
  refine (HFI.out _ _ W4 q0 q1).mono ?_
  rintro e W5 ⟨rfl, rfl⟩
  replace a0 := g4.cell a0
  have HG4 := Lib.hid (g1.trans g4)
  have hmm := @run_makeMap Tryz.prog
  have hm0 := mapG_new (ev := evNO) W4
  have HL : Hid (∃ a b, w.heap.size = a ∧ b = a) := ⟨_, _, rfl, rfl⟩
  have gM := (Gr.refl W4).alloc (.map #[] 0)
  have HA0 := Lib.hid (gM.cell a0)
  have HGM := Lib.hid (HG4.out.trans gM)
  clear HCA HCV HFI HW4 q0 q1 g1 g4 gM
  go_wp2_with fail
  clear hmm
  have hwm : w.heap.size ≤ W4.heap.size := HG4.out.size
  have HM0 := Lib.hid hm0
  clear hm0
  obtain ⟨WM, hWM⟩ : ∃ W, W = W4.alloc (.map #[] 0) := ⟨_, rfl⟩
  rw [← hWM] at HA0 HGM HM0 ⊢
  generalize W4.heap.size = mg at *
  clear hWM HG4
  go_loopg [9, 25] m (fun gk s9 s25 wr => ∃ (k : Nat) (ks : List (ByteArray × Int)), s25 = .int .i64 (k : Int) ∧ gk + k = m ∧ Hid (MapG evNO wr mg ks) ∧ Hid (KnO ks (v.take k)) ∧ Hid (Gr w wr) ∧ Hid (wr.cell? ⟨w.heap.size, 0, none⟩ = some (.slice q n cap)))
  case atStart => exact ⟨0, [], rfl, by omega, HM0.out, KnO.nil, HGM.out, HA0.out⟩
  case round =>
    obtain ⟨k, ks, rfl, hgk, HKS, HKN, HG, HCL⟩ := hrel
    by_cases hlk : k < m
    · obtain ⟨y, hy⟩ : ∃ y, v[k]? = some y := ⟨v[k]'(by have := HM.out; omega), List.getElem?_eq_getElem _⟩
      obtain ⟨b2, o2, rfl, hc2⟩ := HV.out (by have := HM.out; omega)
      obtain ⟨y0, y1⟩ := hc2 k y hy
      replace y0 := HG.out.cell y0
      replace y1 := HG.out.cell y1
      have hlk2 : (k : Int) < (m : Int) := by omega
      have g1 := (Gr.refl wr).alloc (.cells #[.string y.de, .int .i64 y.nu] 84)
      obtain ⟨ob, hput, hks2⟩ := mapG_put uMapNO (HKS.out.gr g1) y.de y.nu
      have hput2 : (Instr.mapUpdate 83 (.map (some mg)) (.string y.de) (.int .i64 y.nu)).run Tryz.prog _ = _ := hput
      have HKS2 := Lib.hid hks2
      have HKN2 : Hid (KnO (putG ks y.de y.nu) (v.take (k + 1))) := by
        rw [Hid, List.take_add_one, hy]; exact HKN.out.put
      have HG2 := Lib.hid (gr_putG (ob := ob) (HG.out.trans g1) hwm)
      have hne : w.heap.size ≠ mg := fun e => by
        obtain ⟨⟨es, clock, h9, _⟩⟩ := HKS.out
        have := HCL.out
        rw [e] at this
        simp [World.cell?, h9] at this
      have HCL2 : Hid ((putGB (wr.alloc (.cells #[.string y.de, .int .i64 y.nu] 84)) mg ob).cell? ⟨w.heap.size, 0, none⟩ = some (.slice q n cap)) := MapG.cellO (HKS.out.gr g1) (g1.cell HCL.out) ob
      clear hy hc2 g1 hks2 hput hne
      go_wp2_with fail
      go_roundg (gk - 1)
      case measure => omega
      case rel => exact ⟨k + 1, _, by go_num, by omega, HKS2.out, HKN2.out, HG2.out, HCL2.out⟩
    · obtain rfl : m = k := by omega
      have hlk2 : ¬ (m : Int) < (m : Int) := by omega
      have hvm : v.take m = v := List.take_of_length_le (by have := HM.out; omega)
      have hkn := HKN.out
      rw [hvm] at hkn
      have HKN2 := Lib.hid hkn
      have hcl := HCL.out
      have HHG := HG
      have HKSS := HKS
      clear hvm hkn HKN
      obtain ⟨WQ, hWQ⟩ : ∃ W, W = wr := ⟨wr, rfl⟩
      subst hWQ
      go_wp2_with fail
      clear hcl
      go_loopg [10, 12, 38] n (fun gk s10 s12 s38 wr2 => ∃ (i : Nat) (es : List EnR), s38 = .int .i64 (i : Int) ∧ gk + i = n ∧ Hid (wr2.ownsRow WQ.heap.size 77 7 s10 (lackL (l.take i) v).length (enCs es)) ∧ Hid (es.length = (lackL (l.take i) v).length) ∧ Hid (es.map ek = (lackL (l.take i) v).map ek) ∧ Hid (∀ f ∈ es, CpS wr2 WQ.heap.size f.p f.n f.cap f.xs) ∧ Hid (Gr WQ wr2))
      case atStart => exact ⟨0, [], rfl, by omega, World.ownsRow_nil _ _ _ _, rfl, rfl, (fun f hf => by cases hf), Gr.refl _⟩
      case round =>
        obtain ⟨i, es, rfl, hgk2, HOWN, HEL, HEK, HCP, HG2⟩ := hrel
        have hsz := HG2.out.size
        by_cases hlt : i < n
        · obtain ⟨x, hx⟩ : ∃ x, l[i]? = some x := ⟨l[i]'(by have := HN.out; omega), List.getElem?_eq_getElem _⟩
          obtain ⟨b, off, rfl, hc⟩ := HR.out (by have := HN.out; omega)
          have gw := HHG.out.trans HG2.out
          have hat := (hc i x hx).gr gw
          obtain ⟨a0, a1, a2, a3, a4, a5, a6, hrx⟩ := hat
          have hlt2 : (i : Int) < (n : Int) := by omega
          have hTT : lackL (l.take (i + 1)) v = if lastN v x.de < x.nu then lackL (l.take i) v ++ [x] else lackL (l.take i) v := by rw [List.take_add_one, hx]; exact lackL_add _ _ _
          have hLL : (lackL (l.take i) v).length ≤ i := Nat.le_trans (lack_len _ _) (by rw [List.length_take]; omega)
          have g1 := (Gr.refl wr).alloc (.cells #[.string x.de, .int .i64 x.nu, .int .i64 x.ck, .string x.ro, .int .i64 x.va, .string x.st, .slice x.p x.n x.cap] 77)
          have hlook := mapG_look uMapNO zeroNO ((HKSS.out.gr HG2.out).gr g1) x.de
          rw [HKN2.out.at_] at hlook
          have HCE0 := Lib.hid (copyEn_c (hrx.gr g1) (HSS.out x (List.mem_of_getElem? hx)) (fun y hy => by have := HFW.out x (List.mem_of_getElem? hx) y hy; omega))
          unfold enV at HCE0
          simp only at HCE0
          have HG1 := Lib.hid g1
          clear hx hc hrx gw g1
          generalize lackL (l.take i) v = LL at *
          generalize lastN v x.de = nn at *
          by_cases hq : nn < x.nu
          · rw [if_pos hq] at hTT
            have HTT := Lib.hid hTT
            clear hTT
            go_wp2_with fail
            refine HCE0.out.mono ?_
            rintro e V ⟨pq, pk, ys, rfl, hcp, hrk, hg⟩
            have gV := HG1.out.trans hg
            have hownV := own_kept HOWN.out gV
            have HGV : Hid (Gr WQ V) := HG2.out.trans gV
            have hszV := HGV.out.size
            have hcpl := hcp.low (show WQ.heap.size ≤ _ from Nat.le_trans HG2.out.size HG1.out.size)
            have HCV : Hid (∀ f ∈ es, CpS V WQ.heap.size f.p f.n f.cap f.xs) := fun f hf => (HCP.out f hf).gr gV
            obtain ⟨hi, hz0, hz1, hz2⟩ := HI0.out
            have gA := (Gr.refl V).alloc (.cells #[.string x.de, .int .i64 x.nu, .int .i64 x.ck, .string x.ro, .int .i64 x.va, .string x.st, .slice pq x.n pk] 77)
            have hownA := own_kept hownV gA
            clear hg gV hcp HCP HOWN HCE0 a0 a1 a2 a3 a4 a5 a6
            go_wp2_with (at_builtin; refine wpList_append_own _ rfl _ _ 22 rfl WQ.heap.size 77 i0 (.agg #[.string ⟨#[]⟩, .int .i64 0, .int .i64 0, .string ⟨#[]⟩, .int .i64 0, .string ⟨#[]⟩, .slice none 0 0]) 7 96 Tryz.underlying22 hi hz0 hz1 hz2 rfl (by decide) _ _ _ rfl (hownA) ⟨V.heap.size, 0, none⟩ 1 1 [.string x.de, .int .i64 x.nu, .int .i64 x.ck, .string x.ro, .int .i64 x.va, .string x.st, .slice pq x.n pk] rfl rfl (cell_seven _ _ _ _ _ _ _ _ _) (one_seven _ _ _ _ _ _ _ _ _) (by unfold maxLen; omega) (by omega) (by simp; omega) ?_; intro v1 w1 hown1 hgrow1 hnil)
            have HGR : Hid (Gr WQ w1) := Below.grown (HGV.out.alloc _) hgrow1 (by simp; omega) (fun q hq => (own_in hownV hq).2)
            have HO1 := Lib.hid hown1
            have HC1 : Hid (∀ f ∈ es ++ [({ x with p := pq, cap := pk, xs := ys } : EnR)], CpS w1 WQ.heap.size f.p f.n f.cap f.xs) := by
              intro f hf
              rcases List.mem_append.1 hf with hf | hf
              · exact ((HCV.out f hf).gr gA).apart hownA (by decide) (by decide) hgrow1
              · rw [List.mem_singleton] at hf
                subst hf
                exact (hcpl.gr gA).apart hownA (by decide) (by decide) hgrow1
            have hek : ek ({ x with p := pq, cap := pk, xs := ys } : EnR) = ek x := by unfold ek; simp only; rw [hrk]
            have HEK1 : Hid ((es ++ [({ x with p := pq, cap := pk, xs := ys } : EnR)]).map ek = (LL ++ [x]).map ek) := by
              rw [Hid, List.map_append, List.map_append, HEK.out, List.map_singleton, List.map_singleton, hek]
            have HEL1 : Hid ((es ++ [({ x with p := pq, cap := pk, xs := ys } : EnR)]).length = (LL ++ [x]).length) := by
              rw [Hid, List.length_append, List.length_append, HEL.out]; rfl
            clear hown1 hgrow1 hownV hownA hnil gA hi hz0 hz1 hz2 hcpl hrk hek HCV
            go_wp2_with fail
            go_roundg (gk - 1)
            case measure => omega
            case rel => exact ⟨i + 1, _, by go_num, by omega, by rw [HTT.out, enCs_add, List.length_append]; exact HO1.out, by rw [HTT.out]; exact HEL1.out, by rw [HTT.out]; exact HEK1.out, HC1.out, HGR.out⟩
          · rw [if_neg hq] at hTT
            have HTT := Lib.hid hTT
            clear hTT
            go_wp2_with fail
            go_roundg (gk - 1)
            case measure => omega
            case rel => exact ⟨i + 1, es, by go_num, by omega, by rw [HTT.out]; exact own_kept HOWN.out HG1.out, by rw [HTT.out]; exact HEL.out, by rw [HTT.out]; exact HEK.out, (fun f hf => (HCP.out f hf).gr HG1.out), HG2.out.trans HG1.out⟩
        · have hlt2 : ¬ (i : Int) < (n : Int) := by omega
          have hli : l.take i = l := List.take_of_length_le (by have := HN.out; omega)
          have ho := HOWN.out
          rw [hli] at ho HEL HEK
          obtain ⟨qq, cc, hsl, hc1, hc2⟩ := own_shape ho
          have HRET : Hid (RetLk (.returned (.tuple #[u10, .int .i64 0])) wr (lackL l v)) := by
            rw [hsl] at ho ⊢
            exact ⟨qq, cc, es, rfl, HEL.out, HEK.out, EnS.of_own ho HEL.out (fun f hf => (HCP.out f hf).rows), ⟨hc1, hc2⟩⟩
          clear ho HOWN hsl hc1 hc2
          go_wp2_with fail
          exact bodyPost_ret (v := .tuple #[u10, .int .i64 0]) (by simp [results, Tryz.results34, go_sem]) rfl ⟨HRET.out, HHG.out.trans HG2.out⟩
end Go.Proofs.YtnihclhhbegjhaaGreatDoor
namespace Go.Proofs.YtnihclhhbegjhaaGreatDoor
open Go.RowKit Go.Shelf
set_option linter.unusedSimpArgs false
set_option linter.unusedVariables false
attribute [local go_sem] Oper.semAt_some
theorem gr_grown6 {w w' : World} (h : Gr w w') : w.grownBy w' none := ⟨h.os, h.tape, h.output, Below.size h, fun k hk _ => Below.block h k hk⟩
theorem gr_others {W W' : World} (h : Gr W W') : KeepsOthers W W' := ⟨Below.size h, fun k o hk _ => (Below.block h k (Array.getElem?_eq_some_iff.1 hk).1).trans hk⟩
theorem own_others {w w' : World} {b s n : Nat} {T : TypeId} {v : Value} {l : List Value} (h : w.ownsRow b T s v n l) (hg : w.grownBy w' v.ownBlock) : KeepsOthers w w' := KeepsOthers.of_grownBy hg fun j o e ho => by
  rcases h.2 with ⟨rfl, _⟩ | ⟨g, cap, cur, rfl, _, hgg, _⟩
  · cases e
  · cases e
    rw [hgg] at ho
    cases ho
    rfl
theorem own_turn {w w' : World} {b s n : Nat} {T : TypeId} {v : Value} {l : List Value} {row : Option Nat} (h : w.ownsRow b T s v n l) (hg : w.grownBy w' row) (hrow : ∀ r, row = some r → ∃ o : Obj, w.heap[r]? = some o ∧ o.isCells = false) : w'.ownsRow b T s v n l := by
  refine ⟨h.1, ?_⟩
  rcases h.2 with hn | ⟨g, cap, cur, rfl, hb, hgg, rest⟩
  · exact .inl hn
  · refine .inr ⟨g, cap, cur, rfl, hb, ?_, rest⟩
    have hlt := (Array.getElem?_eq_some_iff.1 hgg).1
    rw [hg.block g hlt (fun e => by obtain ⟨o, ho, hc⟩ := hrow g e.symm; rw [hgg] at ho; cases ho; cases hc)]
    exact hgg
theorem cell1_of {w : World} {g : Nat} {a : Value} {T : TypeId} {z : Nat × Nat} (h : w.heap[g]? = some (.cells #[a] T z)) : w.cell? ⟨g, 0, none⟩ = some a := by
  simp [World.cell?, h]
def KpAll (A B : World) : Prop := ∀ (k : Nat) (cur : Array Value) T z, A.heap[k]? = some (.cells cur T z) → B.heap[k]? = some (.cells cur T z)
theorem kpAll_putObj (W : World) (l : Nat) (o o' : Obj) (h : W.heap[l]? = some o) (ho : o.isCells = false) : KpAll W (W.putObj l o') := fun k cur T z hk => by
  by_cases e : k = l
  · subst e; rw [hk] at h; cases h; cases ho
  · exact (World.putObj_heap_other e).trans hk
def KpM (base X : Nat) (A B : World) : Prop := ∀ (k : Nat) (cur : Array Value) T z, A.heap[k]? = some (.cells cur T z) → (k = X → T ≠ 55) → (k < base ∨ T ≠ 84) → B.heap[k]? = some (.cells cur T z)
theorem kpM_t {base X : Nat} {A B C : World} (h : KpM base X A B) (k : KpM base X B C) : KpM base X A C := fun i cur T z hi h1 h2 => k i cur T z (h i cur T z hi h1 h2) h1 h2
theorem kpM_gr {base X : Nat} {A B : World} (h : Gr A B) : KpM base X A B := fun k cur T z hk _ _ => Gr.block h hk
theorem kpM_putObj {base X : Nat} (W : World) (l : Nat) (o o' : Obj) (h : W.heap[l]? = some o) (ho : o.isCells = false) : KpM base X W (W.putObj l o') := fun k cur T z hk _ _ => kpAll_putObj W l o o' h ho k cur T z hk
theorem kpM_setCell (base X : Nat) (W : World) (v : Value) {u : Value} (hX : W.heap[X]? = some (.cells #[u] 55 (0, 0))) : KpM base X W (W.setCell ⟨X, 0, none⟩ v) := fun k cur T z hk h1 _ => (Below.heap_setCell _ _ _ _ (fun e => by
  have e : k = X := e
  subst e
  rw [hX] at hk
  cases hk
  exact h1 rfl rfl)).trans hk
theorem kpM_grown {base X : Nat} {W W' : World} {n : Nat} {v : Value} {xs : List Value} (h : W.ownsRow base 84 2 v n xs) (hg : W.grownBy W' v.ownBlock) : KpM base X W W' := fun k cur T z hk h1 h2 =>
  (hg.block k (Array.getElem?_eq_some_iff.1 hk).1 (fun e => by
    rcases h.2 with ⟨rfl, _⟩ | ⟨g, cap, cur', rfl, hb, hgg, _⟩
    · cases e
    · cases e
      rw [hgg] at hk
      cases hk
      rcases h2 with h2 | h2
      · have hb' : base ≤ g := hb
        have h2' : g < base := h2
        omega
      · exact h2 rfl)).trans hk
theorem kpM_cell {base X : Nat} {A B : World} (h : KpM base X A B) {b o : Nat} {v : Value} (hb : b < base) (hx : b ≠ X) (hc : A.cell? ⟨b, o, none⟩ = some v) : B.cell? ⟨b, o, none⟩ = some v := by
  obtain ⟨cur, T, z, hbk⟩ : ∃ cur T z, A.heap[b]? = some (.cells cur T z) := by
    unfold World.cell? at hc
    split at hc
    · rename_i cur T z hbk; exact ⟨cur, T, z, hbk⟩
    · cases hc
  exact (World.cell?_of_block (a := ⟨b, o, none⟩) ((h b cur T z hbk (fun e => absurd e hx) (.inl hb)).trans hbk.symm)).trans hc
structure MkI (base X : Nat) (L : List MkR) (W : World) : Prop where
  mk' ::
  out : ∃ v, W.heap[X]? = some (.cells #[v] 55 (0, 0)) ∧ W.ownsRow base 84 2 v L.length (mkCs L)
theorem MkI.own {base X : Nat} {β : Type} (f : β → List MkR) : Own (fun (s : β) W => MkI base X (f s) W) := fun s A B row hs hg hr => by
  obtain ⟨v, h1, h3⟩ := hs.out
  exact ⟨v, (hg.block X (Array.getElem?_eq_some_iff.1 h1).1 (fun e => by obtain ⟨o, ho, hc⟩ := hr X e.symm; rw [h1] at ho; cases ho; cases hc)).trans h1, own_turn h3 hg hr⟩
theorem MkI.gr {base X : Nat} {L : List MkR} {W W' : World} (h : MkI base X L W) (g : Gr W W') : MkI base X L W' := by
  obtain ⟨v, h1, h3⟩ := h.out
  exact ⟨v, Gr.block g h1, own_kept h3 g⟩
theorem MkI.store {base X : Nat} {L : List MkR} {A B : World} {v v1 : Value} {r : MkR} (hX : X < base) (hc : A.heap[X]? = some (.cells #[v] 55 (0, 0))) (hown : A.ownsRow base 84 2 v L.length (mkCs L)) (hg : A.grownBy B v.ownBlock) (hown1 : B.ownsRow base 84 2 v1 (L.length + 1) (mkCs L ++ mkC r)) :
    (B.cell? ⟨X, 0, none⟩ = some v ∧ B.frozen? ⟨X, 0, none⟩ = false) ∧ MkI base X (L ++ [r]) (B.setCell ⟨X, 0, none⟩ v1) ∧ KpM base X A (B.setCell ⟨X, 0, none⟩ v1) ∧ KeepsOthers A (B.setCell ⟨X, 0, none⟩ v1) := by
  have hne : v.ownBlock ≠ some X := fun e => by
    have := (own_in hown e).2
    omega
  have hb := (hg.block X (Array.getElem?_eq_some_iff.1 hc).1 (fun e => hne e.symm)).trans hc
  refine ⟨⟨cell1_of hb, frozen_of_row _ _ 0 _ _ hb⟩, ⟨v1, ?_, ?_⟩, kpM_t (kpM_grown hown hg) (kpM_setCell _ _ _ _ hb), (own_others hown hg).trans (KeepsOthers.setCell _ _ _)⟩
  · have := heap_setCell_same B X 0 _ _ v1 hb
    simpa using this
  · rw [List.length_append, mkCs_add]
    exact own_same hown1 (fun g e => Below.heap_setCell _ _ _ _ (fun e2 => by
      have h3 := (own_in hown1 e).2
      have h4 : g = X := e2
      omega))
theorem MkI.below {base X n₀ : Nat} {L : List MkR} {w A B : World} {v v1 : Value} (hX : X < base) (hn : n₀ ≤ X) (hw : Below n₀ w A) (hA : n₀ ≤ A.heap.size) (hown : A.ownsRow base 84 2 v L.length (mkCs L)) (hg : A.grownBy B v.ownBlock) : Below n₀ w (B.setCell ⟨X, 0, none⟩ v1) :=
  (Below.grown hw hg hA (fun q hq => by have := (own_in hown hq).2; omega)).setCell (p := ⟨X, 0, none⟩) hn _
structure En7 (w : World) (b off : Nat) (e : EnR) : Prop where
  c0 : w.cell? ⟨b, off, none⟩ = some (.string e.de)
  c1 : w.cell? ⟨b, off + 1, none⟩ = some (.int .i64 e.nu)
  c2 : w.cell? ⟨b, off + 2, none⟩ = some (.int .i64 e.ck)
  c3 : w.cell? ⟨b, off + 3, none⟩ = some (.string e.ro)
  c4 : w.cell? ⟨b, off + 4, none⟩ = some (.int .i64 e.va)
  c5 : w.cell? ⟨b, off + 5, none⟩ = some (.string e.st)
  c6 : w.cell? ⟨b, off + 6, none⟩ = some (.slice e.p e.n e.cap)
theorem En7.kpM {base X : Nat} {A B : World} (h : KpM base X A B) {b off : Nat} {e : EnR} (hb : b < base) (hx : b ≠ X) (k : En7 A b off e) : En7 B b off e :=
  ⟨kpM_cell h hb hx k.c0, kpM_cell h hb hx k.c1, kpM_cell h hb hx k.c2, kpM_cell h hb hx k.c3, kpM_cell h hb hx k.c4, kpM_cell h hb hx k.c5, kpM_cell h hb hx k.c6⟩
theorem En7.gr {A B : World} (h : Gr A B) {b off : Nat} {e : EnR} (k : En7 A b off e) : En7 B b off e :=
  ⟨h.cell k.c0, h.cell k.c1, h.cell k.c2, h.cell k.c3, h.cell k.c4, h.cell k.c5, h.cell k.c6⟩
structure GOK (l : List EnR) (z : List EnR × Nat) : Prop where
  ne : z.1 ≠ []
  at_ : ∀ i e, z.1[i]? = some e → l[z.2 + i]? = some e
  le : z.2 + z.1.length ≤ l.length
abbrev Grp (l : List EnR) := { z : List EnR × Nat // GOK l z }
structure DkF (Bl : Nat) (q0 : Option Addr) (b off n cap : Nat) (l : List EnR) (w : World) : Prop where
  mk' ::
  box : w.heap[Bl]? = some (.cells #[.slice q0 n cap] 24 (0, 0))
  row : ∀ i e, l[i]? = some e → En7 w b (off + i * 7) e
theorem DkF.gr {Bl b off n cap : Nat} {q0 : Option Addr} {l : List EnR} {w w' : World} (h : DkF Bl q0 b off n cap l w) (k : Gr w w') : DkF Bl q0 b off n cap l w' := ⟨Gr.block k h.box, fun i e he => (h.row i e he).gr k⟩
theorem En7.turn {A B : World} {row : Option Nat} {b off : Nat} {e : EnR} (k : En7 A b off e) (hg : A.grownBy B row) (hr : ∀ r, row = some r → ∃ o : Obj, A.heap[r]? = some o ∧ o.isCells = false) : En7 B b off e :=
  ⟨cell_kept k.c0 hg hr, cell_kept k.c1 hg hr, cell_kept k.c2 hg hr, cell_kept k.c3 hg hr, cell_kept k.c4 hg hr, cell_kept k.c5 hg hr, cell_kept k.c6 hg hr⟩
theorem DkF.own {Bl : Nat} {q0 : Option Addr} {b off n cap : Nat} {l : List EnR} {β : Type} : Own (fun (_ : β) W => DkF Bl q0 b off n cap l W) := fun s A B row hs hg hr =>
  ⟨(hg.block Bl (Array.getElem?_eq_some_iff.1 hs.box).1 (fun e => by obtain ⟨o, ho, hc⟩ := hr Bl e.symm; rw [hs.box] at ho; cases ho; cases hc)).trans hs.box, fun i e he => (hs.row i e he).turn hg hr⟩
theorem grps_step {f : Nat} {x : EnR} {t : List EnR} : grps (f + 1) (x :: t) = (x :: t.takeWhile (sameD x)) :: grps f (t.dropWhile (sameD x)) := rfl
theorem grps_fuel : ∀ (f g : Nat) (l : List EnR), l.length ≤ f → l.length ≤ g → grps f l = grps g l
  | 0, 0, _, _, _ => rfl
  | 0, g + 1, [], _, _ => rfl
  | 0, _ + 1, _ :: _, h, _ => by simp at h
  | f + 1, 0, [], _, _ => rfl
  | _ + 1, 0, _ :: _, _, h => by simp at h
  | f + 1, g + 1, [], _, _ => rfl
  | f + 1, g + 1, x :: t, hf, hg => by
    have hdl : (t.dropWhile (sameD x)).length ≤ t.length := (List.dropWhile_sublist _).length_le
    rw [grps_step, grps_step, grps_fuel f g _ (by simp at hf; omega) (by simp at hg; omega)]
theorem groups_cons (x : EnR) (t : List EnR) : groups (x :: t) = (x :: t.takeWhile (sameD x)) :: groups (t.dropWhile (sameD x)) := by
  unfold groups
  rw [List.length_cons, grps_step]
  congr 1
  exact grps_fuel _ _ _ (List.dropWhile_sublist _).length_le (Nat.le_refl _)
theorem take_run {l : List EnR} {s k : Nat} {x : EnR} (hx : l[s]? = some x) (hk : 1 ≤ k) (hin : ∀ j, 1 ≤ j → j < k → ∃ e, l[s + j]? = some e ∧ sameD x e = true) (hend : ∀ e, l[s + k]? = some e → sameD x e = false) :
    (l.drop s) = (x :: (l.drop (s + 1)).takeWhile (sameD x)) ++ l.drop (s + k) ∧ (x :: (l.drop (s + 1)).takeWhile (sameD x)).length = k ∧ (l.drop (s + 1)).dropWhile (sameD x) = l.drop (s + k) := by
  have hd : l.drop s = x :: l.drop (s + 1) := by
    obtain ⟨h1, h2⟩ := List.getElem?_eq_some_iff.1 hx
    rw [List.drop_eq_getElem_cons h1, h2]
  have key : ∀ (t : List EnR) (m : Nat), (∀ j, j < m → ∃ e, t[j]? = some e ∧ sameD x e = true) → (∀ e, t[m]? = some e → sameD x e = false) → t.takeWhile (sameD x) = t.take m ∧ t.dropWhile (sameD x) = t.drop m := by
    intro t
    induction t with
    | nil => intro m _ _; simp
    | cons y t ih =>
      intro m h1 h2
      cases m with
      | zero =>
        have := h2 y (by simp)
        simp [List.takeWhile_cons, List.dropWhile_cons, this]
      | succ m =>
        obtain ⟨e, he, hs⟩ := h1 0 (by omega)
        simp at he
        subst he
        have := ih m (fun j hj => by
          obtain ⟨e, h3, h4⟩ := h1 (j + 1) (by omega)
          exact ⟨e, by simpa using h3, h4⟩) (fun e he => h2 e (by simpa using he))
        simp [List.takeWhile_cons, List.dropWhile_cons, hs, this.1, this.2]
  have hk2 := key (l.drop (s + 1)) (k - 1) (fun j hj => by
    obtain ⟨e, h1, h2⟩ := hin (j + 1) (by omega) (by omega)
    exact ⟨e, by rw [List.getElem?_drop, ← h1]; congr 1; omega, h2⟩) (fun e he => hend e (by rw [← he, List.getElem?_drop]; congr 1; omega))
  have hlen : k - 1 ≤ (l.drop (s + 1)).length := by
    rcases Nat.eq_or_lt_of_le hk with h | h
    · omega
    · obtain ⟨e, h1, _⟩ := hin (k - 1) (by omega) (by omega)
      have := (List.getElem?_eq_some_iff.1 h1).1
      rw [List.length_drop]; omega
  have e3 : (l.drop (s + 1)).drop (k - 1) = l.drop (s + k) := by rw [List.drop_drop]; congr 1; omega
  refine ⟨?_, ?_, ?_⟩
  · rw [hk2.1, hd, List.cons_append, ← e3, List.take_append_drop]
  · rw [hk2.1, List.length_cons, List.length_take]; omega
  · rw [hk2.2, e3]
theorem desks_c (p : Option Addr) (n c : Nat) (w : World) :
    Calls Tryz.prog 75 #[.agg #[.slice p n c]] w fun e w' => e = .returned (.func (.func 120) #[] #[.pointer (some ⟨w.heap.size, 0, none⟩)]) ∧ w' = w.alloc (.cells #[.slice p n c] 24) := by
  go_enter Tryz.func75, Tryz.ntmps75
  go_wp2_with fail
  go_ret
  exact ⟨rfl, rfl⟩
end Go.Proofs.YtnihclhhbegjhaaGreatDoor
namespace Go.Proofs.YtnihclhhbegjhaaGreatDoor
open Go.RowKit Go.Shelf
set_option linter.unusedSimpArgs false
set_option linter.unusedVariables false
attribute [local go_sem] Oper.semAt_some
def lenV (v : Value) : Nat := match v with
  | .slice _ n _ => n
  | _ => 0
set_option maxHeartbeats 4000000 in
set_option maxRecDepth 100000 in
theorem desks_in (lp Bl n b off cap : Nat) (q0 : Option Addr) (hq : 0 < n → q0 = some ⟨b, off, none⟩) (l : List EnR) (hl : l.length = n) (h1 : n ≤ 1000) (hc : n ≤ cap) (hmx : cap ≤ maxLen) (Kp : World → World → Prop) (hKp : ∀ A B, Kp A B → DkF Bl q0 b off n cap l A → DkF Bl q0 b off n cap l B) (J Jx : List (Grp l) → World → Prop) (W : World)
    (hJ : ∀ (s : List (Grp l)) (A B : World), J s A → Gr A B → J s B)
    (hY : ∀ pre (y : Grp l) W1, J pre W1 → pre.length < n → YieldAt Fence.wide 4 Tryz.prog lp #[.string (deskOf y.1.1), .slice (some ⟨b, off + y.1.2 * 7, none⟩) y.1.1.length (cap - y.1.2)] W1 fun e W' =>
      (e = .returned (.bool true) ∧ J (pre ++ [y]) W' ∧ Kp W1 W') ∨ (e = .returned (.bool false) ∧ Jx (pre ++ [y]) W'))
    (hB : DkF Bl q0 b off n cap l W) (h0 : J [] W) :
    CallsIn Fence.wide 5 Tryz.prog 120 #[.func (.yield lp) #[] #[], .pointer (some ⟨Bl, 0, none⟩)] W fun e W' => (∃ v, e = .returned v) ∧
      ((∃ zs : List (Grp l), Hid (zs.map (fun y => y.1.1) = groups l) ∧ J zs W') ∨ (∃ pre, True ∧ Jx pre W')) := by
  refine callsIn_of_wp Tryz.func120 rfl trivial ?_ rfl
  simp only [Tryz.ntmps120, List.size_toArray, List.length_cons, List.length_nil, Nat.reduceAdd, Nat.reduceSub, Array.replicate_succ, Array.replicate_zero, List.push_toArray, List.append_toArray, List.nil_append, List.cons_append]
  have HL := Lib.hid hl
  have HKP := Lib.hid hKp
  have HJ := Lib.hid hJ
  have HY := Lib.hid hY
  have HB := Lib.hid hB
  have hbox := cell1_of hB.box
  have hcm : cap < 9223372036854775808 := by unfold maxLen at hmx; omega
  clear hl hKp hJ hY hB hmx
  gi_wp2
  gi_loopw [3] (fun dv wr => ∃ (pre : List (Grp l)) (s r cr : Nat) (q : Option Addr), dv = .slice q r cr ∧ s + r = n ∧ s + cr = cap ∧ Hid (0 < r → q = some ⟨b, off + s * 7, none⟩) ∧ pre.length ≤ s ∧ Hid (pre.map (fun y => y.1.1) ++ groups (l.drop s) = groups l) ∧ J pre wr ∧ DkF Bl q0 b off n cap l wr) (fun dv _ => lenV dv)
  case atStart => exact ⟨[], 0, n, cap, _, rfl, by omega, by omega, (fun h => by rw [hq h]; simp), Nat.le_refl _, rfl, h0, HB.out⟩
  case round =>
    obtain ⟨pre, s, r, cr, q, rfl, hsr, hscr, HQ, hpl, HGR, hJs, hB⟩ := hrel
    by_cases hr0 : r = 0
    · subst hr0
      have HZ : Hid (pre.map (fun y => y.1.1) = groups l) := by
        have := HGR.out
        rw [List.drop_of_length_le (by have := HL.out; omega)] at this
        rw [Hid, ← this]; simp [groups, grps]
      have HJS := Lib.hid hJs
      clear hJs h0 hbox hB
      gi_wp2
      go_end0
      exact ⟨⟨_, rfl⟩, .inl ⟨_, HZ, HJS.out⟩⟩
    · have hr1 : 0 < r := by omega
      have hq := HQ.out hr1
      subst hq
      obtain ⟨x, hx⟩ : ∃ x, l[s]? = some x := ⟨l[s]'(by have := HL.out; omega), List.getElem?_eq_getElem _⟩
      have hri : (0 : Int) < (r : Int) := by omega
      have hJS := Lib.hid hJs
      have hBB := Lib.hid hB
      have x0 := (hB.row s x hx).c0
      obtain ⟨WQ, hWQ⟩ : ∃ W, W = wr := ⟨wr, rfl⟩
      subst hWQ
      clear hJs hB h0 hbox
      gi_wp2
      gi_loopw [4] (fun dv wr => ∃ k : Nat, dv = .int .i64 (k : Int) ∧ 1 ≤ k ∧ k ≤ r ∧ Hid (∀ j, 1 ≤ j → j < k → ∃ e, l[s + j]? = some e ∧ sameD x e = true) ∧ Hid (Gr WQ wr)) (fun dv _ => r + 1 - (intOf dv).toNat)
      case atStart => exact ⟨1, rfl, Nat.le_refl _, hr1, (fun j h1 h2 => by omega), Gr.refl _⟩
      case round =>
        obtain ⟨k, rfl, hk1, hkr, HIN, HG⟩ := hrel
        have x0k := HG.out.cell x0
        by_cases hlt : k < r
        · have hlt2 : (k : Int) < (r : Int) := by omega
          obtain ⟨y, hy⟩ : ∃ y, l[s + k]? = some y := ⟨l[s + k]'(by have := HL.out; omega), List.getElem?_eq_getElem _⟩
          have y0 := HG.out.cell (hBB.out.row (s + k) y hy).c0
          have ya : off + (s + k) * 7 = off + s * 7 + k * 7 := by omega
          rw [ya] at y0
          cases heq : (y.de.toList == x.de.toList)
          · have HEND : ∀ e, l[s + k]? = some e → sameD x e = false := fun e he => by
              rw [hy] at he; cases he; exact heq
            clear ya
            gi_wp2
            refine wpIn_wide.2 ?_
            go_big_quiet (fail)
            gi_wp2
            have GALL : Gr WQ (wr.drewN nq).drew := (HG.out.drewN nq).drew
            have hrun := take_run hx hk1 HIN.out HEND
            obtain ⟨hr1', hr2, hr3⟩ := hrun
            have hgk : GOK l (x :: (l.drop (s + 1)).takeWhile (sameD x), s) := ⟨by simp, fun i e he => by
              have hil := (List.getElem?_eq_some_iff.1 he).1
              have h9 : (l.drop s)[i]? = some e := by rw [hr1', List.getElem?_append_left hil]; exact he
              rw [List.getElem?_drop] at h9
              exact h9, by simp only; rw [hr2]; have := HL.out; omega⟩
            have hgr : pre.map (fun y => y.1.1) ++ [x :: (l.drop (s + 1)).takeWhile (sameD x)] ++ groups (l.drop (s + k)) = groups l := by
              have hd : l.drop s = x :: l.drop (s + 1) := by
                obtain ⟨h1, h2⟩ := List.getElem?_eq_some_iff.1 hx
                rw [List.drop_eq_getElem_cons h1, h2]
              have := HGR.out
              rw [hd, groups_cons, hr3] at this
              rw [← this]; simp
            have hkn : s + k ≤ n := by omega
            have hJ1 := HJ.out _ _ _ hJS.out GALL
            have hB1 := hBB.out.gr GALL
            have hy0 := HY.out pre ⟨(x :: (l.drop (s + 1)).takeWhile (sameD x), s), hgk⟩ _ hJ1 (by omega)
            have hdk : deskOf (x :: (l.drop (s + 1)).takeWhile (sameD x)) = x.de := rfl
            simp only [hdk] at hy0
            rw [hr2] at hy0
            rw [show cap - s = cr by omega] at hy0
            obtain ⟨fn, tmps, assign, body, hyy, hR⟩ := hy0
            have HRR := Lib.hid hR
            have HGR2 := Lib.hid hgr
            have HB1 := Lib.hid hB1
            have x0d := (hB1.row s x hx).c0
            have hkc : k ≤ cr := by omega
            have hk0 : (0 : Int) ≤ (k : Int) := by omega
            clear hR hgr hB1 hJ1 hr1' hr2 hr3 hx x0 x0k HEND hdk
            refine wpIn_region_any (by kernel_rfl) ?_
            change wpAnyIn _ _ _ _ _ _ _ _ _ (World.drew _)
            generalize (wr.drewN nq).drew = VD at *
            refine wpAnyIn_take (i := 0) (v := (.func (.yield lp) #[] #[])) rfl rfl (by kernel_rfl) (by kernel_rfl) (by kernel_rfl) (fun _ _ _ h => h) ⟨Or.inl ⟨by rfl, fun w => ?_⟩, fun _ => rfl⟩ ?_
            · go_simp; try with_reducible rfl
            (try simp only [Act.put, tz0, tz1, tz2])
            refine wpAnyIn_take (i := 1) (v := (.slice (some ⟨b, off + s * 7, none⟩) r cr)) rfl rfl (by kernel_rfl) (by kernel_rfl) (by kernel_rfl) (fun _ _ _ h => h) ⟨Or.inl ⟨by rfl, fun w => ?_⟩, fun _ => rfl⟩ ?_
            · go_simp; try with_reducible rfl
            (try simp only [Act.put, tz0, tz1, tz2])
            refine wpAnyIn_take (i := 2) (v := (.pointer (some ⟨b, off + s * 7, none⟩))) rfl rfl (by kernel_rfl) (by kernel_rfl) (by kernel_rfl) (fun _ _ _ h => h) ⟨Or.inl ⟨by rfl, fun w => ?_⟩, fun _ => rfl⟩ ?_
            · go_simp; try with_reducible rfl
            (try simp only [Act.put, tz0, tz1, tz2])
            refine wpAnyIn_take (i := 3) (v := (.pointer (some ⟨b, off + s * 7, none⟩))) rfl rfl (by kernel_rfl) (by kernel_rfl) (by kernel_rfl) (fun _ _ _ h => h) ⟨Or.inl ⟨by rfl, fun w => ?_⟩, fun _ => rfl⟩ ?_
            · go_simp; try with_reducible rfl
            (try simp only [Act.put, tz0, tz1, tz2])
            refine wpAnyIn_take (i := 5) (v := (.slice (some ⟨b, off + s * 7, none⟩) r cr)) rfl rfl (by kernel_rfl) (by kernel_rfl) (by kernel_rfl) (fun _ _ _ h => h) ⟨Or.inl ⟨by rfl, fun w => ?_⟩, fun _ => rfl⟩ ?_
            · go_simp; try with_reducible rfl
            (try simp only [Act.put, tz0, tz1, tz2])
            refine wpAnyIn_take (i := 6) (v := (.int .i64 (k : Int))) rfl rfl (by kernel_rfl) (by kernel_rfl) (by kernel_rfl) (fun _ _ _ h => h) ⟨Or.inl ⟨by rfl, fun w => ?_⟩, fun _ => rfl⟩ ?_
            · go_simp; try with_reducible rfl
            (try simp only [Act.put, tz0, tz1, tz2])
            refine wpAnyIn_take (i := 7) (v := (.slice (some ⟨b, off + s * 7, none⟩) k cr)) rfl rfl (by kernel_rfl) (by kernel_rfl) (by kernel_rfl) (fun _ _ _ h => h) ⟨Or.inl ⟨by rfl, fun w => ?_⟩, fun _ => rfl⟩ ?_
            · go_simp; try with_reducible rfl
            (try simp only [Act.put, tz0, tz1, tz2])
            refine wpAnyIn_ready (rs := [4]) (by kernel_rfl) (by simp) (AllReadyIn.cons rfl (fun K hK => ?_) AllReadyIn.nil)
            go_simp
            refine hK _ _ ?_
            clear hK K
            (try simp only [Act.put, tz0, tz1, tz2])
            refine wpAnyIn_ready (rs := [8]) (by kernel_rfl) (by simp) (AllReadyIn.cons rfl (fun K hK => ?_) AllReadyIn.nil)
            go_simp
            obtain ⟨r2, hre⟩ : ∃ r2, r - k = r2 := ⟨_, rfl⟩
            obtain ⟨cr2, hcre⟩ : ∃ c2, cr - k = c2 := ⟨_, rfl⟩
            have hki : (k : Int) ≤ (r : Int) := by omega
            have hkr3 : k ≤ r := hkr
            refine HRR.out.mono ?_
            rintro e W3 (⟨rfl, hj, hkp⟩ | ⟨rfl, hj⟩)
            · have hB3 := HKP.out _ _ hkp HB1.out
              have HB3 := Lib.hid hB3
              have HJ3 := Lib.hid hj
              clear hyy hj hkp hB3
              refine hK _ _ ?_
              clear hK K
              (try simp only [Act.put, tz0, tz1, tz2])
              refine wpAnyIn_take (i := 9) (v := (.bool false)) rfl rfl (by kernel_rfl) (by kernel_rfl) (by kernel_rfl) (fun _ _ _ h => h) ⟨Or.inl ⟨by rfl, fun w => ?_⟩, fun _ => rfl⟩ ?_
              · go_simp; try with_reducible rfl
              (try simp only [Act.put, tz0, tz1, tz2])
              refine wpAnyIn_done (by kernel_rfl) ?_ _
              by_cases hck : cr = k
              · first
                | (exfalso; omega)
                | (obtain rfl : r2 = 0 := by omega
                   obtain rfl : cr2 = 0 := by omega
                   gi_wp2
                   refine ⟨⟨_, s + k, 0, 0, _, rfl, by omega, by omega, (fun h => by omega), by rw [List.length_append, List.length_singleton]; omega, by rw [Hid, List.map_append]; exact HGR2.out, HJ3.out, HB3.out⟩, ?_⟩
                   simp [lenV]
                   try omega)
              · gi_wp2
                refine ⟨⟨_, s + k, r2, cr2, _, rfl, by omega, by omega, (fun h => by rw [show off + (s + k) * 7 = off + s * 7 + k * 7 by omega]), by rw [List.length_append, List.length_singleton]; omega, by rw [Hid, List.map_append]; exact HGR2.out, HJ3.out, HB3.out⟩, ?_⟩
                simp [lenV]
                try omega
            · have HJ3 := Lib.hid hj
              clear hyy hj
              refine hK _ _ ?_
              clear hK K
              (try simp only [Act.put, tz0, tz1, tz2])
              refine wpAnyIn_take (i := 9) (v := (.bool true)) rfl rfl (by kernel_rfl) (by kernel_rfl) (by kernel_rfl) (fun _ _ _ h => h) ⟨Or.inl ⟨by rfl, fun w => ?_⟩, fun _ => rfl⟩ ?_
              · go_simp; try with_reducible rfl
              (try simp only [Act.put, tz0, tz1, tz2])
              refine wpAnyIn_done (by kernel_rfl) ?_ _
              gi_wp2
              first
                | (refine bodyPost_ret (v := .tuple #[]) (by simp [results, Tryz.results120, go_sem]) rfl ?_; exact ⟨⟨_, rfl⟩, .inr ⟨_, trivial, HJ3.out⟩⟩)
                | (refine ⟨rfl, _, by simp [results, Tryz.results120, go_sem]; rfl, ?_⟩; exact ⟨⟨_, rfl⟩, .inr ⟨_, trivial, HJ3.out⟩⟩)
          · have HIN2 : Hid (∀ j, 1 ≤ j → j < k + 1 → ∃ e, l[s + j]? = some e ∧ sameD x e = true) := fun j h1 h2 => by
              rcases Nat.lt_or_ge j k with h | h
              · exact HIN.out j h1 h
              · obtain rfl : j = k := by omega
                exact ⟨y, hy, heq⟩
            clear ya hy
            gi_wp2
            refine wpIn_wide.2 ?_
            go_big_quiet (fail)
            gi_wp2
            refine ⟨⟨k + 1, by go_num, by omega, by omega, HIN2, HG.out.drewN _⟩, ?_⟩
            simp [intOf]
            omega
        · have hlt2 : ¬ (k : Int) < (r : Int) := by omega
          have HEND : ∀ e, l[s + k]? = some e → sameD x e = false := fun e he => by
            have := (List.getElem?_eq_some_iff.1 he).1
            have := HL.out
            omega
          gi_wp2
          refine wpIn_wide.2 ?_
          go_big_quiet (fail)
          gi_wp2
          have GALL : Gr WQ (wr.drewN nq).drew := (HG.out.drewN nq).drew
          have hrun := take_run hx hk1 HIN.out HEND
          obtain ⟨hr1', hr2, hr3⟩ := hrun
          have hgk : GOK l (x :: (l.drop (s + 1)).takeWhile (sameD x), s) := ⟨by simp, fun i e he => by
            have hil := (List.getElem?_eq_some_iff.1 he).1
            have h9 : (l.drop s)[i]? = some e := by rw [hr1', List.getElem?_append_left hil]; exact he
            rw [List.getElem?_drop] at h9
            exact h9, by simp only; rw [hr2]; have := HL.out; omega⟩
          have hgr : pre.map (fun y => y.1.1) ++ [x :: (l.drop (s + 1)).takeWhile (sameD x)] ++ groups (l.drop (s + k)) = groups l := by
            have hd : l.drop s = x :: l.drop (s + 1) := by
              obtain ⟨h1, h2⟩ := List.getElem?_eq_some_iff.1 hx
              rw [List.drop_eq_getElem_cons h1, h2]
            have := HGR.out
            rw [hd, groups_cons, hr3] at this
            rw [← this]; simp
          have hkn : s + k ≤ n := by omega
          have hJ1 := HJ.out _ _ _ hJS.out GALL
          have hB1 := hBB.out.gr GALL
          have hy0 := HY.out pre ⟨(x :: (l.drop (s + 1)).takeWhile (sameD x), s), hgk⟩ _ hJ1 (by omega)
          have hdk : deskOf (x :: (l.drop (s + 1)).takeWhile (sameD x)) = x.de := rfl
          simp only [hdk] at hy0
          rw [hr2] at hy0
          rw [show cap - s = cr by omega] at hy0
          obtain ⟨fn, tmps, assign, body, hyy, hR⟩ := hy0
          have HRR := Lib.hid hR
          have HGR2 := Lib.hid hgr
          have HB1 := Lib.hid hB1
          have x0d := (hB1.row s x hx).c0
          have hkc : k ≤ cr := by omega
          have hk0 : (0 : Int) ≤ (k : Int) := by omega
          clear hR hgr hB1 hJ1 hr1' hr2 hr3 hx x0 x0k HEND hdk
          refine wpIn_region_any (by kernel_rfl) ?_
          change wpAnyIn _ _ _ _ _ _ _ _ _ (World.drew _)
          generalize (wr.drewN nq).drew = VD at *
          refine wpAnyIn_take (i := 0) (v := (.func (.yield lp) #[] #[])) rfl rfl (by kernel_rfl) (by kernel_rfl) (by kernel_rfl) (fun _ _ _ h => h) ⟨Or.inl ⟨by rfl, fun w => ?_⟩, fun _ => rfl⟩ ?_
          · go_simp; try with_reducible rfl
          (try simp only [Act.put, tz0, tz1, tz2])
          refine wpAnyIn_take (i := 1) (v := (.slice (some ⟨b, off + s * 7, none⟩) r cr)) rfl rfl (by kernel_rfl) (by kernel_rfl) (by kernel_rfl) (fun _ _ _ h => h) ⟨Or.inl ⟨by rfl, fun w => ?_⟩, fun _ => rfl⟩ ?_
          · go_simp; try with_reducible rfl
          (try simp only [Act.put, tz0, tz1, tz2])
          refine wpAnyIn_take (i := 2) (v := (.pointer (some ⟨b, off + s * 7, none⟩))) rfl rfl (by kernel_rfl) (by kernel_rfl) (by kernel_rfl) (fun _ _ _ h => h) ⟨Or.inl ⟨by rfl, fun w => ?_⟩, fun _ => rfl⟩ ?_
          · go_simp; try with_reducible rfl
          (try simp only [Act.put, tz0, tz1, tz2])
          refine wpAnyIn_take (i := 3) (v := (.pointer (some ⟨b, off + s * 7, none⟩))) rfl rfl (by kernel_rfl) (by kernel_rfl) (by kernel_rfl) (fun _ _ _ h => h) ⟨Or.inl ⟨by rfl, fun w => ?_⟩, fun _ => rfl⟩ ?_
          · go_simp; try with_reducible rfl
          (try simp only [Act.put, tz0, tz1, tz2])
          refine wpAnyIn_take (i := 5) (v := (.slice (some ⟨b, off + s * 7, none⟩) r cr)) rfl rfl (by kernel_rfl) (by kernel_rfl) (by kernel_rfl) (fun _ _ _ h => h) ⟨Or.inl ⟨by rfl, fun w => ?_⟩, fun _ => rfl⟩ ?_
          · go_simp; try with_reducible rfl
          (try simp only [Act.put, tz0, tz1, tz2])
          refine wpAnyIn_take (i := 6) (v := (.int .i64 (k : Int))) rfl rfl (by kernel_rfl) (by kernel_rfl) (by kernel_rfl) (fun _ _ _ h => h) ⟨Or.inl ⟨by rfl, fun w => ?_⟩, fun _ => rfl⟩ ?_
          · go_simp; try with_reducible rfl
          (try simp only [Act.put, tz0, tz1, tz2])
          refine wpAnyIn_take (i := 7) (v := (.slice (some ⟨b, off + s * 7, none⟩) k cr)) rfl rfl (by kernel_rfl) (by kernel_rfl) (by kernel_rfl) (fun _ _ _ h => h) ⟨Or.inl ⟨by rfl, fun w => ?_⟩, fun _ => rfl⟩ ?_
          · go_simp; try with_reducible rfl
          (try simp only [Act.put, tz0, tz1, tz2])
          refine wpAnyIn_ready (rs := [4]) (by kernel_rfl) (by simp) (AllReadyIn.cons rfl (fun K hK => ?_) AllReadyIn.nil)
          go_simp
          refine hK _ _ ?_
          clear hK K
          (try simp only [Act.put, tz0, tz1, tz2])
          refine wpAnyIn_ready (rs := [8]) (by kernel_rfl) (by simp) (AllReadyIn.cons rfl (fun K hK => ?_) AllReadyIn.nil)
          go_simp
          obtain ⟨r2, hre⟩ : ∃ r2, r - k = r2 := ⟨_, rfl⟩
          obtain ⟨cr2, hcre⟩ : ∃ c2, cr - k = c2 := ⟨_, rfl⟩
          have hki : (k : Int) ≤ (r : Int) := by omega
          have hkr3 : k ≤ r := hkr
          refine HRR.out.mono ?_
          rintro e W3 (⟨rfl, hj, hkp⟩ | ⟨rfl, hj⟩)
          · have hB3 := HKP.out _ _ hkp HB1.out
            have HB3 := Lib.hid hB3
            have HJ3 := Lib.hid hj
            clear hyy hj hkp hB3
            refine hK _ _ ?_
            clear hK K
            (try simp only [Act.put, tz0, tz1, tz2])
            refine wpAnyIn_take (i := 9) (v := (.bool false)) rfl rfl (by kernel_rfl) (by kernel_rfl) (by kernel_rfl) (fun _ _ _ h => h) ⟨Or.inl ⟨by rfl, fun w => ?_⟩, fun _ => rfl⟩ ?_
            · go_simp; try with_reducible rfl
            (try simp only [Act.put, tz0, tz1, tz2])
            refine wpAnyIn_done (by kernel_rfl) ?_ _
            by_cases hck : cr = k
            · first
              | (exfalso; omega)
              | (obtain rfl : r2 = 0 := by omega
                 obtain rfl : cr2 = 0 := by omega
                 gi_wp2
                 refine ⟨⟨_, s + k, 0, 0, _, rfl, by omega, by omega, (fun h => by omega), by rw [List.length_append, List.length_singleton]; omega, by rw [Hid, List.map_append]; exact HGR2.out, HJ3.out, HB3.out⟩, ?_⟩
                 simp [lenV]
                 try omega)
            · gi_wp2
              refine ⟨⟨_, s + k, r2, cr2, _, rfl, by omega, by omega, (fun h => by rw [show off + (s + k) * 7 = off + s * 7 + k * 7 by omega]), by rw [List.length_append, List.length_singleton]; omega, by rw [Hid, List.map_append]; exact HGR2.out, HJ3.out, HB3.out⟩, ?_⟩
              simp [lenV]
              try omega
          · have HJ3 := Lib.hid hj
            clear hyy hj
            refine hK _ _ ?_
            clear hK K
            (try simp only [Act.put, tz0, tz1, tz2])
            refine wpAnyIn_take (i := 9) (v := (.bool true)) rfl rfl (by kernel_rfl) (by kernel_rfl) (by kernel_rfl) (fun _ _ _ h => h) ⟨Or.inl ⟨by rfl, fun w => ?_⟩, fun _ => rfl⟩ ?_
            · go_simp; try with_reducible rfl
            (try simp only [Act.put, tz0, tz1, tz2])
            refine wpAnyIn_done (by kernel_rfl) ?_ _
            gi_wp2
            first
              | (refine bodyPost_ret (v := .tuple #[]) (by simp [results, Tryz.results120, go_sem]) rfl ?_; exact ⟨⟨_, rfl⟩, .inr ⟨_, trivial, HJ3.out⟩⟩)
              | (refine ⟨rfl, _, by simp [results, Tryz.results120, go_sem]; rfl, ?_⟩; exact ⟨⟨_, rfl⟩, .inr ⟨_, trivial, HJ3.out⟩⟩)
theorem desks_stops (Bl n b off cap : Nat) (q0 : Option Addr) (hq : 0 < n → q0 = some ⟨b, off, none⟩) (l : List EnR) (hl : l.length = n) (h1 : n ≤ 1000) (hc : n ≤ cap) (hmx : cap ≤ maxLen) (Kp : World → World → Prop) (hKp : ∀ A B, Kp A B → DkF Bl q0 b off n cap l A → DkF Bl q0 b off n cap l B) (w : World) (hB : DkF Bl q0 b off n cap l w) :
    SeqStopsK Fence.wide 5 Tryz.prog 120 #[.pointer (some ⟨Bl, 0, none⟩)] (fun y : Grp l => #[.string (deskOf y.1.1), .slice (some ⟨b, off + y.1.2 * 7, none⟩) y.1.1.length (cap - y.1.2)]) Kp (fun zs => Hid (zs.map (fun y => y.1.1) = groups l)) (fun _ => True) n w := fun lp J Jx W hW hJ hJx hY h0 =>
  desks_in lp Bl n b off cap q0 hq l hl h1 hc hmx Kp hKp J Jx W (fun s A B h g => hJ s A B none h (gr_grown6 g) (fun r e => by cases e)) hY (hB.gr hW) h0
end Go.Proofs.YtnihclhhbegjhaaGreatDoor
