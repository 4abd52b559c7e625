/- Sheets (chapter 10): names, states, values, and which of two results is better, as the program has them. -/
import Derived.Test.YtbpgifihlppedaaGreatDoorGNames
import Derived.Laws.AppendOwn
import Derived.Test.YtbpgifihlppedaaGreatDoorGNat
import Derived.MapKept
namespace Go.Proofs.YtbpgifihlppedaaGreatDoor
open Go.RowKit Go.Lib
set_option linter.unusedSimpArgs false
set_option linter.unusedVariables false
theorem offName_c (s : ByteArray) (w : World) :
    Calls Tryz.prog 59 #[.string s] w fun e w' => e = .returned (.int .i64 (nmE s)) ∧ Gr w w' := by
  have HN := Lib.hid (isName_c s w)
  have HI := Lib.hid (fun b W => if_c b 8 W)
  cases h : decide (Nm s)
  · have HE : Hid (nmE s = 8) := by unfold Hid nmE; rw [if_neg (of_decide_eq_false h)]
    rw [h] at HN
    go_enter Tryz.func59, Tryz.ntmps59
    go_wp2_with fail
    refine HN.out.mono ?_
    rintro e w4 ⟨rfl, hg⟩
    go_wp2_with fail
    refine (HI.out _ _).mono ?_
    rintro e w5 ⟨rfl, rfl⟩
    go_wp2_with fail
    go_ret
    exact ⟨by rw [HE.out]; rfl, hg⟩
  · have HE : Hid (nmE s = 0) := by unfold Hid nmE; rw [if_pos (of_decide_eq_true h)]
    rw [h] at HN
    go_enter Tryz.func59, Tryz.ntmps59
    go_wp2_with fail
    refine HN.out.mono ?_
    rintro e w4 ⟨rfl, hg⟩
    go_wp2_with fail
    refine (HI.out _ _).mono ?_
    rintro e w5 ⟨rfl, rfl⟩
    go_wp2_with fail
    go_ret
    exact ⟨by rw [HE.out]; rfl, hg⟩
theorem oname_e (s : ByteArray) : ∃ z, z = nmE s ∧ ∀ W, Calls Tryz.prog 59 #[.string s] W fun e w' => e = .returned (.int .i64 z) ∧ Gr W w' :=
  ⟨_, rfl, fun W => offName_c s W⟩
theorem one_cO (i n : Int) (w : World) :
    Calls Tryz.prog 107 #[.int .i64 i, .int .i64 n] w fun e w' => e = .returned (.int .i64 (outE n (-999999999) 999999999)) ∧ w = w' := by
  have HR := Lib.hid (fun W => range_c n (-999999999) 999999999 W)
  go_enter Tryz.func107, Tryz.ntmps107
  go_wp2_with fail
  refine (HR.out _).mono ?_
  rintro e w4 ⟨rfl, rfl⟩
  go_wp2_with fail
  go_ret
  exact ⟨rfl, rfl⟩
set_option maxHeartbeats 1000000 in
set_option maxRecDepth 100000 in
theorem findV_posO (xs : List Int) (n b off cap : Nat) (w : World) (hn : xs.length = n) (hc : ∀ i x, xs[i]? = some x → w.cell? ⟨b, off + i, none⟩ = some (.int .i64 x)) (hs : n ≤ 1000) :
    Calls Tryz.prog 167 #[.slice (some ⟨b, off, none⟩) n cap, .func (.func 107) #[] #[]] w fun e w' => (∃ i : Int, e = .returned (.tuple #[.int .i64 i, .int .i64 (valsE xs)])) ∧ w = w' := by
  have HN := Lib.hid hn
  have HC := Lib.hid hc
  clear hc
  go_enter Tryz.func167, Tryz.ntmps167
  go_wp2_with fail
  go_loopg [11] n (fun g s11 wr => ∃ k : Nat, s11 = .int .i64 k ∧ g + k = n ∧ wr = w ∧ Hid (valsE (xs.drop k) = valsE xs))
  case atStart => exact ⟨0, rfl, by omega, rfl, by simp [Hid]⟩
  case round =>
    obtain ⟨k, rfl, hk, rfl, HF⟩ := hrel
    by_cases hlt : k < n
    · obtain ⟨x, hx⟩ : ∃ x, xs[k]? = some x := ⟨xs[k]'(by omega), List.getElem?_eq_getElem (by omega)⟩
      have hcell := HC.out k x hx
      have hf := valsE_drop hx
      have HT : ∀ i W, _ := fun i W => one_cO i x W
      clear hx
      rcases outE_or x (-999999999) 999999999 with h0 | h0
      · rw [h0] at HT hf
        rw [if_pos rfl] at hf
        replace HT := Lib.hid HT
        have HF2 := Lib.hid hf
        clear hf h0
        go_wp2_with (refine (HT.out _ _).mono ?_; rintro e w4 ⟨rfl, rfl⟩)
        go_roundg (gk - 1)
        case measure => omega
        case rel => exact ⟨k + 1, by go_num, by omega, rfl, by unfold Hid; rw [← HF2.out, HF.out]⟩
      · rw [h0] at HT hf
        rw [if_neg (by decide)] at hf
        replace HT := Lib.hid HT
        have HF2 := Lib.hid hf
        clear hf h0
        go_wp2_with (refine (HT.out _ _).mono ?_; rintro e w4 ⟨rfl, rfl⟩)
        exact bodyPost_ret (v := .tuple #[.int .i64 k, .int .i64 3]) (by simp [results, Tryz.results167, go_sem]) rfl ⟨⟨k, by rw [← HF.out, HF2.out]⟩, rfl⟩
    · have : xs.drop k = [] := List.drop_of_length_le (by omega)
      have HE : Hid (valsE xs = 0) := by unfold Hid; rw [← HF.out, this]; rfl
      clear this
      go_wp2_with fail
      exact bodyPost_ret (v := .tuple #[.int .i64 0, .int .i64 0]) (by simp [results, Tryz.results167, go_sem]) rfl ⟨⟨0, by rw [HE.out]⟩, rfl⟩
set_option maxRecDepth 100000 in
theorem findV_nilO (p : Option Addr) (cap : Nat) (w : World) :
    Calls Tryz.prog 167 #[.slice p 0 cap, .func (.func 107) #[] #[]] w fun e w' => (∃ i : Int, e = .returned (.tuple #[.int .i64 i, .int .i64 0])) ∧ w = w' := by
  go_enter Tryz.func167, Tryz.ntmps167
  go_wp2_with fail
  refine wp_loop_rounds 1 ?_
  rw [rounds_succ]
  go_wp2_with fail
  exact bodyPost_ret (v := .tuple #[.int .i64 0, .int .i64 0]) (by simp [results, Tryz.results167, go_sem]) rfl ⟨⟨0, rfl⟩, rfl⟩
theorem eachV_cO {v : Value} {xs : List Int} (w : World) (h : IntsV w v xs) (hs : xs.length ≤ 1000) :
    Calls Tryz.prog 106 #[v, .func (.func 107) #[] #[]] w fun e w' => e = .returned (.int .i64 (valsE xs)) ∧ w = w' := by
  have HF : Hid (Calls Tryz.prog 167 #[v, .func (.func 107) #[] #[]] w fun e w' => (∃ i : Int, e = .returned (.tuple #[.int .i64 i, .int .i64 (valsE xs)])) ∧ w = w') := by
    obtain ⟨⟨p, cap, rfl, hh⟩⟩ := h
    by_cases h0 : 0 < xs.length
    · obtain ⟨b, off, rfl, hc⟩ := hh h0
      exact findV_posO xs _ b off cap w rfl hc hs
    · have : xs = [] := List.eq_nil_of_length_eq_zero (by omega)
      subst this
      exact findV_nilO p cap w
  obtain ⟨⟨p, cap, rfl, _⟩⟩ := h
  go_enter Tryz.func106, Tryz.ntmps106
  go_wp2_with fail
  refine HF.out.mono ?_
  rintro e w4 ⟨⟨i, rfl⟩, rfl⟩
  go_wp2_with fail
  go_ret
  exact ⟨rfl, rfl⟩
set_option maxHeartbeats 1000000 in
set_option maxRecDepth 100000 in
theorem isState_c (s : ByteArray) (w : World) (h : s.toList.isEmpty = false) :
    Calls Tryz.prog 104 #[.string s] w fun e w' => e = .returned (.bool (!(gradeZ s.toList == -1))) ∧ w = w' := by
  have HG : ∀ z, (!(gradeZ s.toList == -1)) = z → Hid ((!(gradeZ s.toList == -1)) = z) := fun z h => h
  rcases grade_of s.toList with h1 | h1 | h1 | h1 | ⟨h0, h1, h2, h3⟩
  · rw [h1] at h; cases h
  · replace HG := HG true (by rw [h1]; rfl)
    go_enter Tryz.func104, Tryz.ntmps104
    go_wp2_with fail
    go_ret
    exact ⟨by rw [HG.out]; rfl, rfl⟩
  · replace HG := HG true (by rw [h1]; rfl)
    go_enter Tryz.func104, Tryz.ntmps104
    go_wp2_with fail
    go_ret
    exact ⟨by rw [HG.out]; rfl, rfl⟩
  · replace HG := HG true (by rw [h1]; rfl)
    go_enter Tryz.func104, Tryz.ntmps104
    go_wp2_with fail
    go_ret
    exact ⟨by rw [HG.out]; rfl, rfl⟩
  · replace HG := HG false (by rw [gradeZ_other h0 h1 h2 h3]; rfl)
    go_enter Tryz.func104, Tryz.ntmps104
    go_wp2_with fail
    go_ret
    exact ⟨by rw [HG.out]; rfl, rfl⟩
/-- the four states in a row -/
def st4 : List ByteArray := [⟨#[]⟩, ⟨#[100, 110, 115]⟩, ⟨#[100, 110, 102]⟩, ⟨#[100, 115, 113]⟩]
theorem st4_cells (w : World) (T : TypeId) : ∀ i t, st4[i]? = some t → (w.alloc (.cells #[.string ⟨#[]⟩, .string ⟨#[100, 110, 115]⟩, .string ⟨#[100, 110, 102]⟩, .string ⟨#[100, 115, 113]⟩] T)).cell? ⟨w.heap.size, 0 + i, none⟩ = some (.string t) := by
  intro i t h
  rw [Nat.zero_add]
  rcases i with _ | _ | _ | _ | i
  · simp [st4] at h; subst h; exact cell_new w #[_, _, _, _] T 0 (by simp)
  · simp [st4] at h; subst h; exact cell_new w #[_, _, _, _] T 1 (by simp)
  · simp [st4] at h; subst h; exact cell_new w #[_, _, _, _] T 2 (by simp)
  · simp [st4] at h; subst h; exact cell_new w #[_, _, _, _] T 3 (by simp)
  · simp [st4] at h
def fitO (va : Int) (x : RowR) : Bool := if x.st.toList.isEmpty then decide ((x.xs.length : Int) = va) else decide (x.xs.length = 0)
set_option maxHeartbeats 1000000 in
set_option maxRecDepth 100000 in
theorem fits_c (ro : ByteArray) (va : Int) (st : ByteArray) (v : Value) (x : RowR) (w : World) (hv : IntsV w x.u x.xs) :
    Calls Tryz.prog 105 #[.agg #[.string ro, .int .i64 va, .string st, v], .agg #[.string x.nm, .string x.st, x.u]] w fun e w' => e = .returned (.bool (fitO va x)) ∧ Gr w w' := by
  obtain ⟨⟨pu, cu, hu, _⟩⟩ := id hv
  rw [hu]
  have HFt : ∀ b, fitO va x = b → Hid (fitO va x = b) := fun _ h => h
  cases he : x.st.toList.isEmpty
  · have he2 : ¬ x.st.toList = [] := by intro q; rw [q] at he; cases he
    replace HFt := HFt (decide (x.xs.length = 0)) (by unfold fitO; rw [he]; rfl)
    generalize x.xs.length = n at *
    clear hv hu
    go_enter Tryz.func105, Tryz.ntmps105
    go_wp2_with fail
    go_ret
    exact ⟨by rw [HFt.out]; simp; try (rw [Bool.eq_iff_iff]; simp), ((Gr.refl w).alloc _).alloc _⟩
  · have he2 : x.st.toList = [] := by simpa using he
    replace HFt := HFt (decide ((x.xs.length : Int) = va)) (by unfold fitO; rw [he]; rfl)
    generalize x.xs.length = n at *
    clear hv hu
    go_enter Tryz.func105, Tryz.ntmps105
    go_wp2_with fail
    go_ret
    exact ⟨by rw [HFt.out]; simp; try (rw [Bool.eq_iff_iff]; simp), ((Gr.refl w).alloc _).alloc _⟩
end Go.Proofs.YtbpgifihlppedaaGreatDoor
namespace Go.Proofs.YtbpgifihlppedaaGreatDoor
open Go.RowKit Go.Lib
set_option linter.unusedSimpArgs false
set_option linter.unusedVariables false
end Go.Proofs.YtbpgifihlppedaaGreatDoor
namespace Go.Proofs.YtbpgifihlppedaaGreatDoor
open Go.RowKit Go.Lib
set_option linter.unusedSimpArgs false
set_option linter.unusedVariables false
/-- the slice v reads as the integers xs -/
structure ReadsI (w : World) (v : Value) (xs : List Int) : Prop where
  mk' ::
  out : ∃ p cap, v = .slice p xs.length cap ∧ (0 < xs.length → ∃ g, p = some ⟨g, 0, none⟩ ∧ ∀ i x, xs[i]? = some x → w.cell? ⟨g, i, none⟩ = some (.int .i64 x))
theorem ReadsI.gr {w w' : World} {v : Value} {xs : List Int} (h : ReadsI w v xs) (k : Gr w w') : ReadsI w' v xs := by
  obtain ⟨⟨p, cap, rfl, hh⟩⟩ := h
  refine ⟨p, cap, rfl, fun h0 => ?_⟩
  obtain ⟨g, h1, h2⟩ := hh h0
  exact ⟨g, h1, fun i x hx => k.cell (h2 i x hx)⟩
end Go.Proofs.YtbpgifihlppedaaGreatDoor
namespace Go.Proofs.YtbpgifihlppedaaGreatDoor
open Go.RowKit Go.Lib
set_option linter.unusedSimpArgs false
set_option linter.unusedVariables false
end Go.Proofs.YtbpgifihlppedaaGreatDoor
namespace Go.Proofs.YtbpgifihlppedaaGreatDoor
open Go.RowKit Go.Lib
set_option linter.unusedSimpArgs false
set_option linter.unusedVariables false
/-- a key's value in a list of pairs; the pairs with a key's value set -/
def lookG {α : Type} (ks : List (ByteArray × α)) (k : ByteArray) : Option α := (ks.find? fun p => p.1.toList == k.toList).map (·.2)
def putG {α : Type} : List (ByteArray × α) → ByteArray → α → List (ByteArray × α)
  | [], k, v => [(k, v)]
  | p :: r, k, v => if p.1.toList == k.toList then (k, v) :: r else p :: putG r k v
def pairG {α : Type} (ev : α → Value) (p : ByteArray × α) : Value × Value := (.string p.1, ev p.2)
section
variable {α : Type} {ev : α → Value}
/-- the block holds these pairs -/
structure MapG (ev : α → Value) (w : World) (g : Nat) (ks : List (ByteArray × α)) : Prop where
  mk' ::
  out : ∃ es clock, w.heap[g]? = some (.map ⟨es⟩ clock) ∧ es.map (fun e : MapEntry => (e.key, e.val)) = ks.map (pairG ev)
theorem MapG.gr {w w' : World} {g : Nat} {ks : List (ByteArray × α)} (h : MapG ev w g ks) (k : Gr w w') : MapG ev w' g ks := by
  obtain ⟨⟨es, clock, h1, h2⟩⟩ := h
  exact ⟨es, clock, k.block h1, h2⟩
theorem same_strG (a b : ByteArray) : Instr.sameNow .string (.string a) (.string b) = some (b.toList == a.toList) := by
  simp only [Instr.sameNow]
  rw [beq_toListBytes, Bool.beq_comm]
theorem mapG_find {k : ByteArray} : ∀ {es : List MapEntry} {ks : List (ByteArray × α)} (i : Nat), es.map (fun e : MapEntry => (e.key, e.val)) = ks.map (pairG ev) →
    match lookG ks k with
    | some v => ∃ j, Instr.findNow .string (.string k) es i = some (some (i + j, ev v)) ∧ j < es.length ∧ ∃ e s, es[j]? = some e ∧ e.key = .string s ∧ s.toList = k.toList ∧ e.val = ev v ∧ ∀ u, (es.modify j fun e => { e with key := .string k, val := ev u }).map (fun e : MapEntry => (e.key, e.val)) = (putG ks k u).map (pairG ev)
    | none => Instr.findNow .string (.string k) es i = some none ∧ ∀ u, putG ks k u = ks ++ [(k, u)]
  | [], [], i, _ => by simp [Instr.findNow, lookG, putG]
  | [], _ :: _, _, h => by simp at h
  | _ :: _, [], _, h => by simp at h
  | e :: es, z :: ks, i, h => by
    simp only [List.map_cons, List.cons.injEq, pairG, Prod.mk.injEq] at h
    obtain ⟨⟨h1, h2⟩, h3⟩ := h
    have ih := mapG_find (k := k) (i + 1) h3
    by_cases hz : (z.1.toList == k.toList) = true
    · have hl : lookG (z :: ks) k = some z.2 := by simp [lookG, List.find?_cons, hz]
      rw [hl]
      refine ⟨0, ?_, by simp, e, z.1, rfl, h1, by simpa using hz, h2, fun u => ?_⟩
      · simp [Instr.findNow, h1, h2, same_strG, hz]
      · simp [putG, hz, pairG, h3]
    · have hz' : (z.1.toList == k.toList) = false := by simpa using hz
      have hl : lookG (z :: ks) k = lookG ks k := by simp [lookG, List.find?_cons, hz']
      rw [hl]
      cases hq : lookG ks k with
      | some v =>
        rw [hq] at ih
        obtain ⟨j, h4, h5, e2, s, h6, h7, h8, h9, h10⟩ := ih
        refine ⟨j + 1, ?_, by simp; omega, e2, s, by simpa using h6, h7, h8, h9, fun u => ?_⟩
        · rw [show i + (j + 1) = i + 1 + j by omega, ← h4]
          simp [Instr.findNow, h1, same_strG, hz']
        · have := h10 u
          simp only [putG, hz', List.modify_succ_cons, List.map_cons, this, h1, h2]
          simp [pairG]
      | none =>
        rw [hq] at ih
        refine ⟨?_, fun u => by simp [putG, hz', ih.2 u]⟩
        rw [← ih.1]
        simp [Instr.findNow, h1, same_strG, hz']
theorem uStrG : Tryz.prog.underlying 9 = some .string := by kernel_rfl
theorem run_undG {t : TypeId} {d : TypeDesc} (h : Tryz.prog.underlying t = some d) (w : World) : (underlying t).run Tryz.prog w = .ok d w := run_underlying h w
theorem checkKeyG (e : Bool) (k : Value) (w : World) : (Instr.checkKey e 10000 9 k).run Tryz.prog w = .ok () w := by
  unfold Instr.checkKey
  simp only [Sem.run_bind, run_undG uStrG, Result.andThen_ok]
  rfl
/-- one block changed -/
def putGB (w : World) (g : Nat) (ob : Obj) : World := { w with heap := w.heap.setIfInBounds g ob }
/-- asked -/
theorem mapG_look {tm tv : TypeId} {z : Value} (hu : Tryz.prog.underlying tm = some (.map 9 tv)) (hz : ∀ w, (zeroValue tv).run Tryz.prog w = .ok z w) {w : World} {g : Nat} {ks : List (ByteArray × α)} (h : MapG ev w g ks) (k : ByteArray) : (Instr.lookup tm (.map (some g)) (.string k) false).run Tryz.prog w = .ok (((lookG ks k).map ev).getD z) w := by
  obtain ⟨⟨es, clock, h1, h2⟩⟩ := h
  have hg : (getObj g).run Tryz.prog w = .ok (.map ⟨es⟩ clock) w := by simp [getObj, Sem.run, h1]
  have hf := mapG_find (k := k) 0 h2
  unfold Instr.lookup
  cases hk : lookG ks k with
  | some v =>
    rw [hk] at hf
    obtain ⟨j, h3, _⟩ := hf
    have hfk := Go.MapKept.run_findKey (P := Tryz.prog) (w := w) uStrG h3
    simp only [Sem.run_bind, run_undG hu, Result.andThen_ok, Sem.run_pure, hg, checkKeyG, hfk]
    simp
  | none =>
    rw [hk] at hf
    have hfk := Go.MapKept.run_findKey (P := Tryz.prog) (w := w) uStrG hf.1
    simp only [Sem.run_bind, run_undG hu, Result.andThen_ok, Sem.run_pure, hg, checkKeyG, hfk]
    simp [hz]
/-- written -/
theorem mapG_put {tm tv : TypeId} (hu : Tryz.prog.underlying tm = some (.map 9 tv)) {w : World} {g : Nat} {ks : List (ByteArray × α)} (h : MapG ev w g ks) (k : ByteArray) (u : α) : ∃ ob, (Instr.mapUpdate tm (.map (some g)) (.string k) (ev u)).run Tryz.prog w = .ok () (putGB w g ob) ∧ MapG ev (putGB w g ob) g (putG ks k u) := by
  obtain ⟨⟨es, clock, h1, h2⟩⟩ := h
  have hg : (getObj g).run Tryz.prog w = .ok (.map ⟨es⟩ clock) w := by simp [getObj, Sem.run, h1]
  have hset : ∀ ob, (setObj g ob).run Tryz.prog w = .ok () (putGB w g ob) := fun ob => by simp [setObj, Sem.run, h1, putGB]
  have hlt := (Array.getElem?_eq_some_iff.1 h1).1
  have hput : ∀ ob, (putGB w g ob).heap[g]? = some ob := fun ob => by simp [putGB, hlt]
  have hf := mapG_find (k := k) 0 h2
  cases hk : lookG ks k with
  | some v =>
    rw [hk] at hf
    obtain ⟨j, h3, h4, e, s, h5, h6, h7, h8, h9⟩ := hf
    rw [Nat.zero_add] at h3
    have hfk := Go.MapKept.run_findKey (P := Tryz.prog) (w := w) uStrG h3
    have hsk : s = k := by
      rw [ByteArray.toList_eq, ByteArray.toList_eq] at h7
      exact ByteArray.ext (Array.toList_inj.1 h7)
    subst hsk
    have hss : (s == s) = true := by rw [beq_toListBytes]; simp
    refine ⟨.map ⟨es.modify j fun e => { e with key := .string s, val := ev u }⟩ clock, ?_, ?_⟩
    · simp [Instr.mapUpdate, run_undG hu, hg, checkKeyG, hfk, hset, h5, h6, Instr.keyThatStays, Instr.sameBits, hss]
    · exact ⟨_, _, hput _, h9 u⟩
  | none =>
    rw [hk] at hf
    have hfk := Go.MapKept.run_findKey (P := Tryz.prog) (w := w) uStrG hf.1
    refine ⟨.map ⟨es ++ [⟨.string k, ev u, clock⟩]⟩ (clock + 1), ?_, ?_⟩
    · simp [Instr.mapUpdate, run_undG hu, hg, checkKeyG, hfk, hset]
    · exact ⟨_, _, hput _, by rw [hf.2 u]; simp [h2, pairG]⟩
theorem mapG_new (w : World) : MapG ev (w.alloc (.map #[] 0)) w.heap.size [] := ⟨[], 0, heap_alloc_new _ _, rfl⟩
theorem gr_putG {w0 w : World} {g : Nat} {ob : Obj} (h : Gr w0 w) (hg : w0.heap.size ≤ g) : Gr w0 (putGB w g ob) := by
  have hsz : (putGB w g ob).heap.size = w.heap.size := by simp [putGB]
  refine ⟨h.os, h.tape, h.output, by rw [hsz]; exact h.size, fun k hk => ?_⟩
  have hne : ¬ g = k := by omega
  rw [← Below.block h k hk]
  simp [putGB, hne]
end
end Go.Proofs.YtbpgifihlppedaaGreatDoor
