/- StartForwards: the reference's Forward. -/
import Derived.Test.YtenhodepaoaiiaaGreatDoorGFwB
namespace Go.Proofs.YtenhodepaoaiiaaGreatDoor
open Go.RowKit Go.Lib
set_option linter.unusedSimpArgs false
set_option linter.unusedVariables false
set_option maxHeartbeats 8000000
set_option maxRecDepth 100000
/-- x is better than y -/
def btr (x y : RowR) : Bool := decide (cmpL y.xs x.xs < 0)
/-- how far a result goes ahead in an order -/
def walkAt (xs : List RowR) (x : RowR) (ps : List Nat) : Nat → Nat
  | 0 => 0
  | k + 1 => if btr x (rowOf xs (ps.getD k 0)) = true then walkAt xs x ps k else k + 1
theorem walkAt_le (xs : List RowR) (x : RowR) (ps : List Nat) : ∀ k, walkAt xs x ps k ≤ k
  | 0 => Nat.le_refl _
  | k + 1 => by
    unfold walkAt
    split
    · have := walkAt_le xs x ps k; omega
    · exact Nat.le_refl _
theorem walkAt_step {xs : List RowR} {x : RowR} {ps : List Nat} {k p : Nat} (h : ps[k]? = some p) : walkAt xs x ps (k + 1) = if btr x (rowOf xs p) = true then walkAt xs x ps k else k + 1 := by
  rw [walkAt, List.getD_eq_getElem?_getD, h]; rfl
def insB (xs : List RowR) (ps : List Nat) (i : Nat) : List Nat := ps.take (walkAt xs (rowOf xs i) ps ps.length) ++ i :: ps.drop (walkAt xs (rowOf xs i) ps ps.length)
theorem insB_len (xs : List RowR) (ps : List Nat) (i : Nat) : (insB xs ps i).length = ps.length + 1 := by
  unfold insB
  have := walkAt_le xs (rowOf xs i) ps ps.length
  simp [List.length_append, List.length_take, List.length_drop]; omega
theorem insB_mem {xs : List RowR} {ps : List Nat} {i a : Nat} : a ∈ insB xs ps i ↔ a = i ∨ a ∈ ps := by
  unfold insB
  rw [List.mem_append, List.mem_cons]
  constructor
  · rintro (h | h | h)
    · exact .inr (List.mem_of_mem_take h)
    · exact .inl h
    · exact .inr (List.mem_of_mem_drop h)
  · rintro (h | h)
    · exact .inr (.inl h)
    · rw [← List.take_append_drop (walkAt xs (rowOf xs i) ps ps.length) ps, List.mem_append] at h
      rcases h with h | h
      · exact .inl h
      · exact .inr (.inr h)
/-- the order of the first results without a state -/
def orderF (xs : List RowR) : Nat → List Nat
  | 0 => []
  | k + 1 => if (rowOf xs k).st.toList.isEmpty = true then insB xs (orderF xs k) k else orderF xs k
theorem orderF_le (xs : List RowR) : ∀ k, (orderF xs k).length ≤ k
  | 0 => Nat.le_refl _
  | k + 1 => by
    have := orderF_le xs k
    unfold orderF
    split
    · rw [insB_len]; omega
    · omega
theorem orderF_mem {xs : List RowR} : ∀ {k a : Nat}, a ∈ orderF xs k → a < k ∧ (rowOf xs a).st.toList.isEmpty = true
  | 0, a, h => by cases h
  | k + 1, a, h => by
    unfold orderF at h
    split at h
    · rename_i hs
      rcases insB_mem.1 h with rfl | h
      · exact ⟨by omega, hs⟩
      · have := orderF_mem h; exact ⟨by omega, this.2⟩
    · have := orderF_mem h; exact ⟨by omega, this.2⟩
def cntF (xs : List RowR) (ps : List Nat) (x : RowR) (K : Nat) : Nat := (ps.take K).countP fun a => btr (rowOf xs a) x
theorem cntF_step {xs : List RowR} {ps : List Nat} {x : RowR} {K p : Nat} (h : ps[K]? = some p) : cntF xs ps x (K + 1) = cntF xs ps x K + if btr (rowOf xs p) x = true then 1 else 0 := by
  unfold cntF
  rw [List.take_add_one, h, Option.toList_some, List.countP_append, List.countP_singleton]
theorem cntF_le (xs : List RowR) (ps : List Nat) (x : RowR) (K : Nat) : cntF xs ps x K ≤ K := by
  unfold cntF
  exact Nat.le_trans List.countP_le_length (by rw [List.length_take]; omega)
def namesF (xs : List RowR) (ps : List Nat) (m : Nat) (K : Nat) : List ByteArray := ((ps.take K).filter fun a => decide (cntF xs ps (rowOf xs a) ps.length < m)).map fun a => (rowOf xs a).nm
theorem namesF_step {xs : List RowR} {ps : List Nat} {m K p : Nat} (h : ps[K]? = some p) : namesF xs ps m (K + 1) = namesF xs ps m K ++ if decide (cntF xs ps (rowOf xs p) ps.length < m) = true then [(rowOf xs p).nm] else [] := by
  unfold namesF
  rw [List.take_add_one, h, Option.toList_some, List.filter_append, List.map_append]
  congr 1
  simp only [List.filter_cons, List.filter_nil]
  cases decide (cntF xs ps (rowOf xs p) ps.length < m) <;> rfl
theorem namesF_le (xs : List RowR) (ps : List Nat) (m K : Nat) : (namesF xs ps m K).length ≤ K := by
  unfold namesF
  rw [List.length_map]
  exact Nat.le_trans (List.length_filter_le _ _) (by rw [List.length_take]; omega)
theorem refForward_c {xs : List RowR} {p : Option Addr} {n c : Nat} {w : World} (m : Nat) (hx : RowsV w (.slice p n c) xs) (h1 : n < 20) (hV : ValidB (xs.map bare)) :
    Calls Tryz.prog 14 #[.slice p n c, .int .i64 (m : Int)] w fun e w' => ∃ q l k, e = .returned (.slice q l k) ∧ StrsV w' (.slice q l k) (namesF xs (orderF xs n) m (orderF xs n).length) ∧ Gr w w' := by
  obtain ⟨i1, hj, hy0, hy1, hy2⟩ := info_parts infoTh
  obtain ⟨hn, _, hh⟩ := hx.at
  have HRow := Lib.hid (show ∀ a, a < n → ∃ b off, p = some ⟨b, off, none⟩ ∧ RowAt w b (off + a * 3) (rowOf xs a) from fun a ha => by
    obtain ⟨b, off, e, hc⟩ := hh (by omega)
    have hxa : xs[a]? = some (xs[a]'(by omega)) := List.getElem?_eq_getElem _
    exact ⟨b, off, e, by rw [rowOf_at hxa]; exact hc a _ hxa⟩)
  have HBt := Lib.hid (show ∀ a d, a < n → d < n → (rowOf xs a).st.toList.isEmpty = true → (rowOf xs d).st.toList.isEmpty = true → ∀ W, Gr w W → Calls Tryz.prog 51 #[.agg #[.string (rowOf xs a).nm, .string (rowOf xs a).st, (rowOf xs a).u], .agg #[.string (rowOf xs d).nm, .string (rowOf xs d).st, (rowOf xs d).u]] W fun e w' => e = .returned (.bool (btr (rowOf xs a) (rowOf xs d))) ∧ Gr W w' from fun a d ha hd ea ed W gW => by
    obtain ⟨b, off, e, hc⟩ := hh (by omega)
    have hxa : xs[a]? = some (xs[a]'(by omega)) := List.getElem?_eq_getElem _
    have hxd : xs[d]? = some (xs[d]'(by omega)) := List.getElem?_eq_getElem _
    rw [rowOf_at hxa] at ea ⊢
    rw [rowOf_at hxd] at ed ⊢
    have ra := (hc a _ hxa).gr gW
    have rd := (hc d _ hxd).gr gW
    exact better_c _ _ _ _ _ _ _ _ W ra.val rd.val (hV.even _ (List.mem_map_of_mem (List.mem_of_getElem? hxd)) _ (List.mem_map_of_mem (List.mem_of_getElem? hxa)) ed ea) ra.len)
  have HOm := Lib.hid (fun (k a : Nat) (h : a ∈ orderF xs k) => orderF_mem h)
  have HOl := Lib.hid (fun k => orderF_le xs k)
  clear hx hV hh hn
  go_enter Tryz.func14, Tryz.ntmps14
  go_wp2_with fail
  go_loopw [5, 6] (fun v0 i wr => ∃ (k : Nat) (v : Value), v = v0 ∧ k ≤ n ∧ i = .int .i64 k ∧ wr.ownsRow w.heap.size 3 1 v (orderF xs k).length (nats (orderF xs k)) ∧ ((orderF xs k).length = 0 → v = .slice none 0 0) ∧ Gr w wr) (fun _ i _ => n - (intOf i).toNat)
  case atStart => exact ⟨0, _, rfl, Nat.zero_le _, rfl, World.ownsRow_nil _ _ _ _, fun _ => rfl, Gr.refl _⟩
  case round =>
    obtain ⟨k, v, rfl, hk, rfl, hown, hnil, gO⟩ := hrel
    by_cases hkN : k < n
    · obtain ⟨b, off, rfl, hr⟩ := HRow.out k hkN
      have hi2 : (k : Int) < n := by omega
      obtain ⟨c0, c1, c2, _, _⟩ := hr.gr gO
      cases hE : (rowOf xs k).st.toList.isEmpty
      · have hE2 : ¬ (rowOf xs k).st.toList = [] := by intro e; rw [e] at hE; cases hE
        have HO := Lib.hid (show orderF xs (k + 1) = orderF xs k from by rw [orderF, hE]; rfl)
        have HOW := Lib.hid hown
        have HNi := Lib.hid hnil
        clear hown hnil hr
        go_wp2_with fail
        go_roundw
        case rel => exact ⟨k + 1, _, rfl, by omega, by go_num, by rw [HO.out]; exact HOW.out, by rw [HO.out]; exact HNi.out, gO⟩
        case measure => simp [intOf]; omega
      · have hE2 : (rowOf xs k).st.toList = [] := by simpa using hE
        have HO := Lib.hid (show orderF xs (k + 1) = insB xs (orderF xs k) k from by rw [orderF, hE]; rfl)
        have hOk := HOm.out k
        have hlk := HOl.out k
        generalize hps : orderF xs k = ps at *
        generalize hpl : ps.length = pl at *
        have HP := Lib.hid (show ∀ j, j < pl → ∃ d g cg, ps[j]? = some d ∧ d < n ∧ (rowOf xs d).st.toList.isEmpty = true ∧ v = .slice (some ⟨g, 0, none⟩) pl cg ∧ wr.cell? ⟨g, j, none⟩ = some (.int .i64 (d : Int)) from fun j hj => by
          obtain ⟨g, cg, e, hc⟩ := own_some0 hown (by omega)
          have hd : ps[j]? = some (ps[j]'(by omega)) := List.getElem?_eq_getElem _
          have := hOk _ (List.mem_of_getElem? hd)
          exact ⟨_, g, cg, hd, by omega, this.2, e, hc j _ hd⟩)
        have HWk := Lib.hid (fun j d (h : ps[j]? = some d) => walkAt_step (xs := xs) (x := rowOf xs k) h)
        have HIn := Lib.hid (fun (a : Nat) (W : World) (g : Gr wr W) (ha : a ≤ pl) => insert_c (base := w.heap.size) k (own_gr hown g) hnil hpl (by omega) ha)
        have hEk := hE
        have hvs : ∃ ov ol oc, v = .slice ov ol oc ∧ ol = pl := by
          rcases hown.2 with ⟨e, h0⟩ | ⟨g, cg, cur, e, _⟩
          · exact ⟨none, 0, 0, e, h0.symm⟩
          · exact ⟨_, _, _, e, rfl⟩
        obtain ⟨ov, ol, oc, rfl, rfl⟩ := hvs
        have HIB := Lib.hid (show (insB xs ps k).length = ol + 1 from by rw [insB_len, hpl])
        have HIe : Hid (insB xs ps k = ps.take (walkAt xs (rowOf xs k) ps ol) ++ k :: ps.drop (walkAt xs (rowOf xs k) ps ol)) := by unfold Hid insB; rw [hpl]
        have HWl := Lib.hid (walkAt_le xs (rowOf xs k) ps ol)
        clear hown hnil hr hOk hpl hps
        go_wp2_with fail
        generalize wr = wO at *
        go_loopg [7] (ol + 1) (fun gn s7 wr2 => ∃ a : Nat, s7 = .int .i64 a ∧ gn = a + 1 ∧ a ≤ ol ∧ Gr wO wr2 ∧ Hid (walkAt xs (rowOf xs k) ps a = walkAt xs (rowOf xs k) ps ol))
        case atStart => exact ⟨ol, rfl, rfl, Nat.le_refl _, Gr.refl _, rfl⟩
        case round =>
          obtain ⟨a, rfl, hgn, ha, g2, HV⟩ := hrel
          have ins : ∀ (W : World) (gW : Gr wO W), walkAt xs (rowOf xs k) ps ol = a → Calls Tryz.prog 52 #[.slice ov ol oc, .int .i64 a, .int .i64 k] W fun e w' => ∃ v', e = .returned v' ∧ w'.ownsRow w.heap.size 3 1 v' (ol + 1) (nats (insB xs ps k)) ∧ Gr W w' := fun W gW hwa => by
            refine (HIn.out a W gW ha).mono ?_
            rintro e w' ⟨v', rfl, ho, gg⟩
            exact ⟨v', rfl, by rw [HIe.out, hwa]; exact own_le ho (gO.trans gW).size, gg⟩
          have HIns := Lib.hid ins
          clear ins
          rcases Nat.eq_zero_or_pos a with h0 | h0
          · subst h0
            have hwa : walkAt xs (rowOf xs k) ps ol = 0 := by rw [← HV.out]; rfl
            have HIns2 := Lib.hid (fun W gW => HIns.out W gW hwa)
            clear HV HIns
            have gd : Gr wO wr.drew := g2.drew
            go_wp2_with fail
            refine wp_region_held_drew (S := (fun w' => Gr wO w')) (by kernel_rfl) gd (fun hHeld => ?_)
            generalize wr.drew = V at *
            refine wpAnyH_take (i := 0) (v := (.int .i64 0)) (op_at rfl) (by kernel_rfl) (by kernel_rfl) (by kernel_rfl) (fun _ _ _ h => h) (Or.inl ⟨rfl, fun w hSw => ?_⟩) (by assumption) ?_
            · (try dsimp only at hSw); go_simp; try with_reducible rfl
            (try simp only [Act.put, List.setIfInBounds_toArray, List.set_cons_zero, List.set_cons_succ])
            refine wpAnyH_take (i := 1) (v := (.bool false)) (op_at rfl) (by kernel_rfl) (by kernel_rfl) (by kernel_rfl) (fun _ _ _ h => h) (Or.inl ⟨rfl, fun w hSw => ?_⟩) (by assumption) ?_
            · (try dsimp only at hSw); go_simp; try with_reducible rfl
            (try simp only [Act.put, List.setIfInBounds_toArray, List.set_cons_zero, List.set_cons_succ])
            refine wpAnyH_take (i := 2) (v := (.bool false)) (op_at rfl) (by kernel_rfl) (by kernel_rfl) (by kernel_rfl) (fun _ _ _ h => h) (Or.inl ⟨rfl, fun w hSw => ?_⟩) (by assumption) ?_
            · (try dsimp only at hSw); go_simp; try with_reducible rfl
            (try simp only [Act.put, List.setIfInBounds_toArray, List.set_cons_zero, List.set_cons_succ])
            refine wpAnyH_take (i := 3) (v := undef) (op_at rfl) (by kernel_rfl) (by kernel_rfl) (by kernel_rfl) (fun _ _ _ h => h) (Or.inr ⟨rfl, rfl⟩) (by assumption) ?_
            (try simp only [Act.put, List.setIfInBounds_toArray, List.set_cons_zero, List.set_cons_succ])
            refine wpAnyH_take (i := 4) (v := undef) (op_at rfl) (by kernel_rfl) (by kernel_rfl) (by kernel_rfl) (fun _ _ _ h => h) (Or.inr ⟨rfl, rfl⟩) (by assumption) ?_
            (try simp only [Act.put, List.setIfInBounds_toArray, List.set_cons_zero, List.set_cons_succ])
            refine wpAnyH_take (i := 5) (v := undef) (op_at rfl) (by kernel_rfl) (by kernel_rfl) (by kernel_rfl) (fun _ _ _ h => h) (Or.inr ⟨rfl, rfl⟩) (by assumption) ?_
            (try simp only [Act.put, List.setIfInBounds_toArray, List.set_cons_zero, List.set_cons_succ])
            refine wpAnyH_take (i := 6) (v := undef) (op_at rfl) (by kernel_rfl) (by kernel_rfl) (by kernel_rfl) (fun _ _ _ h => h) (Or.inr ⟨rfl, rfl⟩) (by assumption) ?_
            (try simp only [Act.put, List.setIfInBounds_toArray, List.set_cons_zero, List.set_cons_succ])
            refine wpAnyH_take (i := 7) (v := undef) (op_at rfl) (by kernel_rfl) (by kernel_rfl) (by kernel_rfl) (fun _ _ _ h => h) (Or.inr ⟨rfl, rfl⟩) (by assumption) ?_
            (try simp only [Act.put, List.setIfInBounds_toArray, List.set_cons_zero, List.set_cons_succ])
            refine wpAnyH_take (i := 8) (v := undef) (op_at rfl) (by kernel_rfl) (by kernel_rfl) (by kernel_rfl) (fun _ _ _ h => h) (Or.inr ⟨rfl, rfl⟩) (by assumption) ?_
            (try simp only [Act.put, List.setIfInBounds_toArray, List.set_cons_zero, List.set_cons_succ])
            refine wpAnyH_take (i := 9) (v := undef) (op_at rfl) (by kernel_rfl) (by kernel_rfl) (by kernel_rfl) (fun _ _ _ h => h) (Or.inr ⟨rfl, rfl⟩) (by assumption) ?_
            (try simp only [Act.put, List.setIfInBounds_toArray, List.set_cons_zero, List.set_cons_succ])
            refine wpAnyH_take (i := 10) (v := undef) (op_at rfl) (by kernel_rfl) (by kernel_rfl) (by kernel_rfl) (fun _ _ _ h => h) (Or.inr ⟨rfl, rfl⟩) (by assumption) ?_
            (try simp only [Act.put, List.setIfInBounds_toArray, List.set_cons_zero, List.set_cons_succ])
            refine wpAnyH_take (i := 11) (v := undef) (op_at rfl) (by kernel_rfl) (by kernel_rfl) (by kernel_rfl) (fun _ _ _ h => h) (Or.inr ⟨rfl, rfl⟩) (by assumption) ?_
            (try simp only [Act.put, List.setIfInBounds_toArray, List.set_cons_zero, List.set_cons_succ])
            refine wpAnyH_take (i := 12) (v := undef) (op_at rfl) (by kernel_rfl) (by kernel_rfl) (by kernel_rfl) (fun _ _ _ h => h) (Or.inr ⟨rfl, rfl⟩) (by assumption) ?_
            (try simp only [Act.put, List.setIfInBounds_toArray, List.set_cons_zero, List.set_cons_succ])
            refine wpAnyH_take (i := 13) (v := undef) (op_at rfl) (by kernel_rfl) (by kernel_rfl) (by kernel_rfl) (fun _ _ _ h => h) (Or.inr ⟨rfl, rfl⟩) (by assumption) ?_
            (try simp only [Act.put, List.setIfInBounds_toArray, List.set_cons_zero, List.set_cons_succ])
            refine wpAnyH_take (i := 14) (v := undef) (op_at rfl) (by kernel_rfl) (by kernel_rfl) (by kernel_rfl) (fun _ _ _ h => h) (Or.inr ⟨rfl, rfl⟩) (by assumption) ?_
            (try simp only [Act.put, List.setIfInBounds_toArray, List.set_cons_zero, List.set_cons_succ])
            refine wpAnyH_take (i := 15) (v := undef) (op_at rfl) (by kernel_rfl) (by kernel_rfl) (by kernel_rfl) (fun _ _ _ h => h) (Or.inr ⟨rfl, rfl⟩) (by assumption) ?_
            (try simp only [Act.put, List.setIfInBounds_toArray, List.set_cons_zero, List.set_cons_succ])
            refine wpAnyH_take (i := 16) (v := (.bool false)) (op_at rfl) (by kernel_rfl) (by kernel_rfl) (by kernel_rfl) (fun _ _ _ h => h) (Or.inl ⟨rfl, fun w hSw => ?_⟩) (by assumption) ?_
            · (try dsimp only at hSw); go_simp; try with_reducible rfl
            (try simp only [Act.put, List.setIfInBounds_toArray, List.set_cons_zero, List.set_cons_succ])
            refine wpAnyH_done (by kernel_rfl) ?_ _
            go_wp2_with fail
            refine (HIns2.out _ gd).mono ?_
            rintro e w5 ⟨v5, rfl, ho5, g5⟩
            have gE : Gr w w5 := (gO.trans gd).trans g5
            go_wp2_with fail
            go_roundw
            case rel => exact ⟨k + 1, _, rfl, by omega, by go_num, by rw [HO.out, HIB.out]; exact ho5, by rw [HO.out, HIB.out]; intro h; omega, gE⟩
            case measure => simp [intOf]; omega
          · obtain ⟨a, rfl⟩ : ∃ q, a = q + 1 := ⟨a - 1, by omega⟩
            obtain ⟨d, g0, cg, hd, hdn, hdE, hvv, hcd⟩ := HP.out a (by omega)
            cases hvv
            obtain ⟨b', off', e', hrd⟩ := HRow.out d hdn
            cases e'
            obtain ⟨d0, d1, d2, _, _⟩ := hrd.gr (gO.trans g2)
            replace c0 := g2.cell c0
            replace c1 := g2.cell c1
            replace c2 := g2.cell c2
            replace hcd := g2.cell hcd
            have hst := HWk.out a d hd
            have hBt := Lib.hid (HBt.out k d hkN hdn hEk hdE)
            have hdi : (d : Int) < n := by omega
            have hai : (a : Int) < ol := by omega
            have ha0 : decide ((0 : Int) < (a : Int) + 1) = true := decide_eq_true (by omega)
            have haw : IntKind.i64.wrap (a : Int) = a := by rw [IntKind.wrap_i64]; omega
            have gd : Gr wr wr.drew := (Gr.refl wr).drew
            replace c0 := gd.cell c0
            replace c1 := gd.cell c1
            replace c2 := gd.cell c2
            replace d0 := gd.cell d0
            replace d1 := gd.cell d1
            replace d2 := gd.cell d2
            replace hcd := gd.cell hcd
            replace g2 := g2.trans gd
            clear gd hrd hd
            generalize rowOf xs d = y at *
            generalize hxk : rowOf xs k = x at *
            generalize btr x y = bb at *
            go_wp2_with fail
            refine wp_region_held_drew (S := (fun w' => Gr wO w' ∧ w'.cell? ⟨b, off + k * 3, none⟩ = some (.string x.nm) ∧ w'.cell? ⟨b, off + k * 3 + 1, none⟩ = some (.string x.st) ∧ w'.cell? ⟨b, off + k * 3 + 2, none⟩ = some x.u ∧ w'.cell? ⟨b, off + d * 3, none⟩ = some (.string y.nm) ∧ w'.cell? ⟨b, off + d * 3 + 1, none⟩ = some (.string y.st) ∧ w'.cell? ⟨b, off + d * 3 + 2, none⟩ = some y.u ∧ w'.cell? ⟨g0, a, none⟩ = some (.int .i64 (d : Int)))) (by kernel_rfl) ⟨g2, c0, c1, c2, d0, d1, d2, hcd⟩ (fun hHeld => ?_)
            generalize wr.drew = V at *
            refine wpAnyH_take (i := 0) (v := (.int .i64 ((a : Int) + 1))) (op_at rfl) (by kernel_rfl) (by kernel_rfl) (by kernel_rfl) (fun _ _ _ h => h) (Or.inl ⟨rfl, fun w hSw => ?_⟩) (by assumption) ?_
            · (try dsimp only at hSw); go_simp; try with_reducible rfl
            (try simp only [Act.put, List.setIfInBounds_toArray, List.set_cons_zero, List.set_cons_succ])
            refine wpAnyH_take (i := 1) (v := (.bool true)) (op_at rfl) (by kernel_rfl) (by kernel_rfl) (by kernel_rfl) (fun _ _ _ h => h) (Or.inl ⟨rfl, fun w hSw => ?_⟩) (by assumption) ?_
            · (try dsimp only at hSw); go_simp; try with_reducible rfl
            (try simp only [Act.put, List.setIfInBounds_toArray, List.set_cons_zero, List.set_cons_succ])
            refine wpAnyH_take (i := 2) (v := (.bool true)) (op_at rfl) (by kernel_rfl) (by kernel_rfl) (by kernel_rfl) (fun _ _ _ h => h) (Or.inl ⟨rfl, fun w hSw => ?_⟩) (by assumption) ?_
            · (try dsimp only at hSw); go_simp; try with_reducible rfl
            (try simp only [Act.put, List.setIfInBounds_toArray, List.set_cons_zero, List.set_cons_succ])
            refine wpAnyH_take (i := 3) (v := (.slice (some ⟨b, off, none⟩) n c)) (op_at rfl) (by kernel_rfl) (by kernel_rfl) (by kernel_rfl) (fun _ _ _ h => h) (Or.inl ⟨rfl, fun w hSw => ?_⟩) (by assumption) ?_
            · (try dsimp only at hSw); go_simp; try with_reducible rfl
            (try simp only [Act.put, List.setIfInBounds_toArray, List.set_cons_zero, List.set_cons_succ])
            refine wpAnyH_take (i := 4) (v := (.int .i64 k)) (op_at rfl) (by kernel_rfl) (by kernel_rfl) (by kernel_rfl) (fun _ _ _ h => h) (Or.inl ⟨rfl, fun w hSw => ?_⟩) (by assumption) ?_
            · (try dsimp only at hSw); go_simp; try with_reducible rfl
            (try simp only [Act.put, List.setIfInBounds_toArray, List.set_cons_zero, List.set_cons_succ])
            refine wpAnyH_take (i := 5) (v := (.pointer (some ⟨b, off + k * 3, none⟩))) (op_at rfl) (by kernel_rfl) (by kernel_rfl) (by kernel_rfl) (fun _ _ _ h => h) (Or.inl ⟨rfl, fun w hSw => ?_⟩) (by assumption) ?_
            · (try dsimp only at hSw); go_simp; try with_reducible rfl
            (try simp only [Act.put, List.setIfInBounds_toArray, List.set_cons_zero, List.set_cons_succ])
            refine wpAnyH_take (i := 6) (v := (.agg #[.string x.nm, .string x.st, x.u])) (op_at rfl) (by kernel_rfl) (by kernel_rfl) (by kernel_rfl) (fun _ _ _ h => h) (Or.inl ⟨rfl, fun w hSw => ?_⟩) (by assumption) ?_
            · (try dsimp only at hSw); go_simp; try with_reducible rfl
            (try simp only [Act.put, List.setIfInBounds_toArray, List.set_cons_zero, List.set_cons_succ])
            refine wpAnyH_take (i := 7) (v := (.slice (some ⟨b, off, none⟩) n c)) (op_at rfl) (by kernel_rfl) (by kernel_rfl) (by kernel_rfl) (fun _ _ _ h => h) (Or.inl ⟨rfl, fun w hSw => ?_⟩) (by assumption) ?_
            · (try dsimp only at hSw); go_simp; try with_reducible rfl
            (try simp only [Act.put, List.setIfInBounds_toArray, List.set_cons_zero, List.set_cons_succ])
            refine wpAnyH_take (i := 8) (v := (.slice (some ⟨g0, 0, none⟩) ol oc)) (op_at rfl) (by kernel_rfl) (by kernel_rfl) (by kernel_rfl) (fun _ _ _ h => h) (Or.inl ⟨rfl, fun w hSw => ?_⟩) (by assumption) ?_
            · (try dsimp only at hSw); go_simp; try with_reducible rfl
            (try simp only [Act.put, List.setIfInBounds_toArray, List.set_cons_zero, List.set_cons_succ])
            refine wpAnyH_take (i := 9) (v := (.int .i64 ((a : Int) + 1))) (op_at rfl) (by kernel_rfl) (by kernel_rfl) (by kernel_rfl) (fun _ _ _ h => h) (Or.inl ⟨rfl, fun w hSw => ?_⟩) (by assumption) ?_
            · (try dsimp only at hSw); go_simp; try with_reducible rfl
            (try simp only [Act.put, List.setIfInBounds_toArray, List.set_cons_zero, List.set_cons_succ])
            refine wpAnyH_take (i := 10) (v := (.int .i64 a)) (op_at rfl) (by kernel_rfl) (by kernel_rfl) (by kernel_rfl) (fun _ _ _ h => h) (Or.inl ⟨rfl, fun w hSw => ?_⟩) (by assumption) ?_
            · (try dsimp only at hSw); go_simp; try with_reducible rfl
            (try simp only [Act.put, List.setIfInBounds_toArray, List.set_cons_zero, List.set_cons_succ])
            refine wpAnyH_take (i := 11) (v := (.pointer (some ⟨g0, a, none⟩))) (op_at rfl) (by kernel_rfl) (by kernel_rfl) (by kernel_rfl) (fun _ _ _ h => h) (Or.inl ⟨rfl, fun w hSw => ?_⟩) (by assumption) ?_
            · (try dsimp only at hSw); go_simp; try with_reducible rfl
            (try simp only [Act.put, List.setIfInBounds_toArray, List.set_cons_zero, List.set_cons_succ])
            refine wpAnyH_take (i := 12) (v := (.int .i64 d)) (op_at rfl) (by kernel_rfl) (by kernel_rfl) (by kernel_rfl) (fun _ _ _ h => h) (Or.inl ⟨rfl, fun w hSw => ?_⟩) (by assumption) ?_
            · (try dsimp only at hSw); go_simp; try with_reducible rfl
            (try simp only [Act.put, List.setIfInBounds_toArray, List.set_cons_zero, List.set_cons_succ])
            refine wpAnyH_take (i := 13) (v := (.pointer (some ⟨b, off + d * 3, none⟩))) (op_at rfl) (by kernel_rfl) (by kernel_rfl) (by kernel_rfl) (fun _ _ _ h => h) (Or.inl ⟨rfl, fun w hSw => ?_⟩) (by assumption) ?_
            · (try dsimp only at hSw); go_simp; try with_reducible rfl
            (try simp only [Act.put, List.setIfInBounds_toArray, List.set_cons_zero, List.set_cons_succ])
            refine wpAnyH_take (i := 14) (v := (.agg #[.string y.nm, .string y.st, y.u])) (op_at rfl) (by kernel_rfl) (by kernel_rfl) (by kernel_rfl) (fun _ _ _ h => h) (Or.inl ⟨rfl, fun w hSw => ?_⟩) (by assumption) ?_
            · (try dsimp only at hSw); go_simp; try with_reducible rfl
            (try simp only [Act.put, List.setIfInBounds_toArray, List.set_cons_zero, List.set_cons_succ])
            refine wpAnyH_ready (rs := [15]) (by kernel_rfl) (by simp) (AllReadyH.cons (op_at rfl) (fun K hK => ?_) AllReadyH.nil)
            go_simp
            (refine (hBt.out _ (gO.trans g2)).mono ?_; rintro e W1 ⟨rfl, hg⟩; replace c0 := hg.cell c0; replace c1 := hg.cell c1; replace c2 := hg.cell c2; replace d0 := hg.cell d0; replace d1 := hg.cell d1; replace d2 := hg.cell d2; replace hcd := hg.cell hcd; replace g2 := g2.trans hg; clear hg)
            go_wp2_with fail
            refine hK.out _ _ ⟨g2, c0, c1, c2, d0, d1, d2, hcd⟩ (fun hHeld => ?_)
            clear hK K
            (try simp only [Act.put, List.setIfInBounds_toArray, List.set_cons_zero, List.set_cons_succ])
            refine wpAnyH_take (i := 16) (v := (.bool bb)) (op_at rfl) (by kernel_rfl) (by kernel_rfl) (by kernel_rfl) (fun _ _ _ h => h) (Or.inl ⟨rfl, fun w hSw => ?_⟩) (by assumption) ?_
            · (try dsimp only at hSw); go_simp; try with_reducible rfl
            (try simp only [Act.put, List.setIfInBounds_toArray, List.set_cons_zero, List.set_cons_succ])
            refine wpAnyH_done (by kernel_rfl) ?_ _
            cases bb
            case false =>
              have hwa : walkAt xs x ps ol = a + 1 := by rw [← HV.out, hst]; rfl
              have HIns2 := Lib.hid (fun W gW => HIns.out W gW hwa)
              clear HIns HV hst hBt
              go_wp2_with fail
              refine (HIns2.out _ g2).mono ?_
              rintro e w5 ⟨v5, rfl, ho5, g5⟩
              have gE : Gr w w5 := (gO.trans g2).trans g5
              go_wp2_with fail
              go_roundw
              case rel => exact ⟨k + 1, _, rfl, by omega, by go_num, by rw [HO.out, HIB.out]; exact ho5, by rw [HO.out, HIB.out]; intro h; omega, gE⟩
              case measure => simp [intOf]; omega
            case true =>
              have HV2 := Lib.hid (show walkAt xs x ps a = walkAt xs x ps ol from by rw [← HV.out, hst]; rfl)
              clear HIns HV hst hBt
              go_wp2_with fail
              go_roundg (gk - 1)
              case measure => omega
              case rel => exact ⟨a, by go_num, by omega, by omega, g2, HV2⟩
    · obtain rfl : k = n := by omega
      have hi2 : ¬ (k : Int) < k := by omega
      have hOk := HOm.out k
      have hlk := HOl.out k
      generalize hps : orderF xs k = ps at *
      generalize hpl : ps.length = pl at *
      have HP := Lib.hid (show ∀ j, j < pl → ∃ d g cg, ps[j]? = some d ∧ d < k ∧ (rowOf xs d).st.toList.isEmpty = true ∧ v = .slice (some ⟨g, 0, none⟩) pl cg ∧ wr.cell? ⟨g, j, none⟩ = some (.int .i64 (d : Int)) from fun j hj => by
        obtain ⟨g, cg, e, hc⟩ := own_some0 hown (by omega)
        have hd : ps[j]? = some (ps[j]'(by omega)) := List.getElem?_eq_getElem _
        have := hOk _ (List.mem_of_getElem? hd)
        exact ⟨_, g, cg, hd, by omega, this.2, e, hc j _ hd⟩)
      have hvs : ∃ ov ol oc, v = .slice ov ol oc ∧ ol = pl := by
        rcases hown.2 with ⟨e, h0⟩ | ⟨g, cg, cur, e, _⟩
        · exact ⟨none, 0, 0, e, h0.symm⟩
        · exact ⟨_, _, _, e, rfl⟩
      obtain ⟨ov, ol, oc, rfl, rfl⟩ := hvs
      have HPl := Lib.hid hpl
      have HPs := Lib.hid hps
      clear hown hnil hOk hps hpl HOm HOl
      generalize wr = wO at *
      go_wp2_with fail
      go_loopw [8, 9] (fun v1 i wr => ∃ j : Nat, j ≤ ol ∧ i = .int .i64 j ∧ wr.ownsRow wO.heap.size 9 1 v1 (namesF xs ps m j).length (strsV (namesF xs ps m j)) ∧ Gr wO wr) (fun _ i _ => ol - (intOf i).toNat)
      case atStart => exact ⟨0, Nat.zero_le _, rfl, World.ownsRow_nil _ _ _ _, Gr.refl _⟩
      case round =>
        obtain ⟨j, hj', rfl, hown2, gq⟩ := hrel
        by_cases hjl : j < ol
        · obtain ⟨d, g0, cg, hd, hdn, hdE, hvv, hcd⟩ := HP.out j hjl
          cases hvv
          obtain ⟨b, off, rfl, hrd⟩ := HRow.out d hdn
          have hj2 : (j : Int) < ol := by omega
          have hdi : (d : Int) < k := by omega
          have HSt := Lib.hid (namesF_step (xs := xs) (m := m) hd)
          have hll := namesF_le xs ps m j
          generalize wr = wQ at *
          go_wp2_with fail
          go_loopg [10, 11] ol (fun gn s10 s11 wr2 => ∃ t : Nat, s11 = .int .i64 t ∧ s10 = .int .i64 (cntF xs ps (rowOf xs d) t) ∧ gn + t = ol ∧ Gr wQ wr2)
          case atStart => exact ⟨0, rfl, rfl, by omega, Gr.refl _⟩
          case round =>
            obtain ⟨t, rfl, rfl, hgn, gt⟩ := hrel
            obtain ⟨d0, d1, d2, _, _⟩ := hrd.gr (gO.trans (gq.trans gt))
            replace hcd := (gq.trans gt).cell hcd
            by_cases htl : t < ol
            · obtain ⟨e, g0', cg', he, hen, heE, hvv, hce⟩ := HP.out t htl
              cases hvv
              obtain ⟨b', off', e', hre⟩ := HRow.out e hen
              cases e'
              obtain ⟨c0, c1, c2, _, _⟩ := hre.gr (gO.trans (gq.trans gt))
              replace hce := (gq.trans gt).cell hce
              have hst := cntF_step (xs := xs) (x := rowOf xs d) he
              have hBt := Lib.hid (HBt.out e d hen hdn heE hdE)
              have hei : (e : Int) < k := by omega
              have hti : (t : Int) < ol := by omega
              have hct := cntF_le xs ps (rowOf xs d) t
              have gd : Gr wr wr.drew := (Gr.refl wr).drew
              replace c0 := gd.cell c0
              replace c1 := gd.cell c1
              replace c2 := gd.cell c2
              replace d0 := gd.cell d0
              replace d1 := gd.cell d1
              replace d2 := gd.cell d2
              replace hcd := gd.cell hcd
              replace hce := gd.cell hce
              replace gt := gt.trans gd
              clear gd hrd hre hd he
              generalize hye : rowOf xs e = y at *
              generalize hxd : rowOf xs d = x at *
              generalize btr y x = bb at *
              generalize cntF xs ps x t = ct at *
              go_wp2_with fail
              refine wp_region_held_drew (S := (fun w' => Gr wQ w' ∧ w'.cell? ⟨b, off + e * 3, none⟩ = some (.string y.nm) ∧ w'.cell? ⟨b, off + e * 3 + 1, none⟩ = some (.string y.st) ∧ w'.cell? ⟨b, off + e * 3 + 2, none⟩ = some y.u ∧ w'.cell? ⟨b, off + d * 3, none⟩ = some (.string x.nm) ∧ w'.cell? ⟨b, off + d * 3 + 1, none⟩ = some (.string x.st) ∧ w'.cell? ⟨b, off + d * 3 + 2, none⟩ = some x.u ∧ w'.cell? ⟨g0, j, none⟩ = some (.int .i64 (d : Int)) ∧ w'.cell? ⟨g0, t, none⟩ = some (.int .i64 (e : Int)))) (by kernel_rfl) ⟨gt, c0, c1, c2, d0, d1, d2, hcd, hce⟩ (fun hHeld => ?_)
              generalize wr.drew = V at *
              refine wpAnyH_take (i := 0) (v := (.slice (some ⟨b, off, none⟩) k c)) (op_at rfl) (by kernel_rfl) (by kernel_rfl) (by kernel_rfl) (fun _ _ _ h => h) (Or.inl ⟨rfl, fun w hSw => ?_⟩) (by assumption) ?_
              · (try dsimp only at hSw); go_simp; try with_reducible rfl
              (try simp only [Act.put, List.setIfInBounds_toArray, List.set_cons_zero, List.set_cons_succ])
              refine wpAnyH_take (i := 1) (v := (.slice (some ⟨g0, 0, none⟩) ol oc)) (op_at rfl) (by kernel_rfl) (by kernel_rfl) (by kernel_rfl) (fun _ _ _ h => h) (Or.inl ⟨rfl, fun w hSw => ?_⟩) (by assumption) ?_
              · (try dsimp only at hSw); go_simp; try with_reducible rfl
              (try simp only [Act.put, List.setIfInBounds_toArray, List.set_cons_zero, List.set_cons_succ])
              refine wpAnyH_take (i := 2) (v := (.int .i64 t)) (op_at rfl) (by kernel_rfl) (by kernel_rfl) (by kernel_rfl) (fun _ _ _ h => h) (Or.inl ⟨rfl, fun w hSw => ?_⟩) (by assumption) ?_
              · (try dsimp only at hSw); go_simp; try with_reducible rfl
              (try simp only [Act.put, List.setIfInBounds_toArray, List.set_cons_zero, List.set_cons_succ])
              refine wpAnyH_take (i := 3) (v := (.pointer (some ⟨g0, t, none⟩))) (op_at rfl) (by kernel_rfl) (by kernel_rfl) (by kernel_rfl) (fun _ _ _ h => h) (Or.inl ⟨rfl, fun w hSw => ?_⟩) (by assumption) ?_
              · (try dsimp only at hSw); go_simp; try with_reducible rfl
              (try simp only [Act.put, List.setIfInBounds_toArray, List.set_cons_zero, List.set_cons_succ])
              refine wpAnyH_take (i := 4) (v := (.int .i64 e)) (op_at rfl) (by kernel_rfl) (by kernel_rfl) (by kernel_rfl) (fun _ _ _ h => h) (Or.inl ⟨rfl, fun w hSw => ?_⟩) (by assumption) ?_
              · (try dsimp only at hSw); go_simp; try with_reducible rfl
              (try simp only [Act.put, List.setIfInBounds_toArray, List.set_cons_zero, List.set_cons_succ])
              refine wpAnyH_take (i := 5) (v := (.pointer (some ⟨b, off + e * 3, none⟩))) (op_at rfl) (by kernel_rfl) (by kernel_rfl) (by kernel_rfl) (fun _ _ _ h => h) (Or.inl ⟨rfl, fun w hSw => ?_⟩) (by assumption) ?_
              · (try dsimp only at hSw); go_simp; try with_reducible rfl
              (try simp only [Act.put, List.setIfInBounds_toArray, List.set_cons_zero, List.set_cons_succ])
              refine wpAnyH_take (i := 6) (v := (.agg #[.string y.nm, .string y.st, y.u])) (op_at rfl) (by kernel_rfl) (by kernel_rfl) (by kernel_rfl) (fun _ _ _ h => h) (Or.inl ⟨rfl, fun w hSw => ?_⟩) (by assumption) ?_
              · (try dsimp only at hSw); go_simp; try with_reducible rfl
              (try simp only [Act.put, List.setIfInBounds_toArray, List.set_cons_zero, List.set_cons_succ])
              refine wpAnyH_take (i := 7) (v := (.slice (some ⟨b, off, none⟩) k c)) (op_at rfl) (by kernel_rfl) (by kernel_rfl) (by kernel_rfl) (fun _ _ _ h => h) (Or.inl ⟨rfl, fun w hSw => ?_⟩) (by assumption) ?_
              · (try dsimp only at hSw); go_simp; try with_reducible rfl
              (try simp only [Act.put, List.setIfInBounds_toArray, List.set_cons_zero, List.set_cons_succ])
              refine wpAnyH_take (i := 8) (v := (.slice (some ⟨g0, 0, none⟩) ol oc)) (op_at rfl) (by kernel_rfl) (by kernel_rfl) (by kernel_rfl) (fun _ _ _ h => h) (Or.inl ⟨rfl, fun w hSw => ?_⟩) (by assumption) ?_
              · (try dsimp only at hSw); go_simp; try with_reducible rfl
              (try simp only [Act.put, List.setIfInBounds_toArray, List.set_cons_zero, List.set_cons_succ])
              refine wpAnyH_take (i := 9) (v := (.int .i64 j)) (op_at rfl) (by kernel_rfl) (by kernel_rfl) (by kernel_rfl) (fun _ _ _ h => h) (Or.inl ⟨rfl, fun w hSw => ?_⟩) (by assumption) ?_
              · (try dsimp only at hSw); go_simp; try with_reducible rfl
              (try simp only [Act.put, List.setIfInBounds_toArray, List.set_cons_zero, List.set_cons_succ])
              refine wpAnyH_take (i := 10) (v := (.pointer (some ⟨g0, j, none⟩))) (op_at rfl) (by kernel_rfl) (by kernel_rfl) (by kernel_rfl) (fun _ _ _ h => h) (Or.inl ⟨rfl, fun w hSw => ?_⟩) (by assumption) ?_
              · (try dsimp only at hSw); go_simp; try with_reducible rfl
              (try simp only [Act.put, List.setIfInBounds_toArray, List.set_cons_zero, List.set_cons_succ])
              refine wpAnyH_take (i := 11) (v := (.int .i64 d)) (op_at rfl) (by kernel_rfl) (by kernel_rfl) (by kernel_rfl) (fun _ _ _ h => h) (Or.inl ⟨rfl, fun w hSw => ?_⟩) (by assumption) ?_
              · (try dsimp only at hSw); go_simp; try with_reducible rfl
              (try simp only [Act.put, List.setIfInBounds_toArray, List.set_cons_zero, List.set_cons_succ])
              refine wpAnyH_take (i := 12) (v := (.pointer (some ⟨b, off + d * 3, none⟩))) (op_at rfl) (by kernel_rfl) (by kernel_rfl) (by kernel_rfl) (fun _ _ _ h => h) (Or.inl ⟨rfl, fun w hSw => ?_⟩) (by assumption) ?_
              · (try dsimp only at hSw); go_simp; try with_reducible rfl
              (try simp only [Act.put, List.setIfInBounds_toArray, List.set_cons_zero, List.set_cons_succ])
              refine wpAnyH_take (i := 13) (v := (.agg #[.string x.nm, .string x.st, x.u])) (op_at rfl) (by kernel_rfl) (by kernel_rfl) (by kernel_rfl) (fun _ _ _ h => h) (Or.inl ⟨rfl, fun w hSw => ?_⟩) (by assumption) ?_
              · (try dsimp only at hSw); go_simp; try with_reducible rfl
              (try simp only [Act.put, List.setIfInBounds_toArray, List.set_cons_zero, List.set_cons_succ])
              refine wpAnyH_ready (rs := [14]) (by kernel_rfl) (by simp) (AllReadyH.cons (op_at rfl) (fun K hK => ?_) AllReadyH.nil)
              go_simp
              (refine (hBt.out _ (gO.trans (gq.trans gt))).mono ?_; rintro e W1 ⟨rfl, hg⟩; replace c0 := hg.cell c0; replace c1 := hg.cell c1; replace c2 := hg.cell c2; replace d0 := hg.cell d0; replace d1 := hg.cell d1; replace d2 := hg.cell d2; replace hcd := hg.cell hcd; replace hce := hg.cell hce; replace gt := gt.trans hg; clear hg)
              go_wp2_with fail
              refine hK.out _ _ ⟨gt, c0, c1, c2, d0, d1, d2, hcd, hce⟩ (fun hHeld => ?_)
              clear hK K
              (try simp only [Act.put, List.setIfInBounds_toArray, List.set_cons_zero, List.set_cons_succ])
              refine wpAnyH_done (by kernel_rfl) ?_ _
              cases bb
              case false =>
                have HC := Lib.hid (show cntF xs ps x (t + 1) = ct from by simpa using hst)
                clear hst hBt
                go_wp2_with fail
                go_roundg (gk - 1)
                case measure => omega
                case rel => exact ⟨t + 1, by go_num, by rw [HC.out], by omega, gt⟩
              case true =>
                have HC := Lib.hid (show cntF xs ps x (t + 1) = ct + 1 from by simpa using hst)
                clear hst hBt
                go_wp2_with fail
                go_roundg (gk - 1)
                case measure => omega
                case rel => exact ⟨t + 1, by go_num, by rw [HC.out]; go_num, by omega, gt⟩
            · obtain rfl : t = ol := by omega
              have hti : ¬ (t : Int) < t := by omega
              have HON := Lib.hid (own_gr hown2 gt)
              have gE := gq.trans gt
              rw [HPl.out] at HSt
              have hd3 : (d : Int) < k := hdi
              clear hrd hd hown2 HP HBt
              generalize cntF xs ps (rowOf xs d) t = cc at *
              by_cases hcm : cc < m
              · have q1 : decide (cc < m) = true := decide_eq_true hcm
                have HQ2 := Lib.hid (show namesF xs ps m (j + 1) = namesF xs ps m j ++ [(rowOf xs d).nm] from by rw [HSt.out, q1, if_pos rfl])
                have HQ3 := Lib.hid (show strsV (namesF xs ps m j ++ [(rowOf xs d).nm]) = strsV (namesF xs ps m j) ++ [.string (rowOf xs d).nm] from by simp [strsV])
                have HQ4 := Lib.hid (show (namesF xs ps m j ++ [(rowOf xs d).nm]).length = (namesF xs ps m j).length + 1 from by simp)
                have hsE := gE.size
                clear HSt
                generalize rowOf xs d = x at *
                generalize (namesF xs ps m j).length = z at *
                go_wp2_with (first
                  | (at_builtin; refine wpList_append_own _ rfl _ _ 23 rfl wO.heap.size 9 i1 (.string ⟨#[]⟩) 1 16 Tryz.underlying23 hj hy0 hy1 hy2 rfl (by decide) _ _ _ rfl (HON.out.alloc _) ⟨wr.heap.size, 0, none⟩ 1 1 [.string x.nm] rfl rfl (cell_one_sz _ _ (by simp) _ _) (by intro u hu; simp at hu; subst hu; rfl) (by unfold maxLen; omega) (by omega) (by simp; omega) ?_; intro v1 w1 hown1 hgrow1 hnil1))
                go_roundw
                case rel => exact ⟨j + 1, by omega, by go_num, by rw [HQ2.out, HQ3.out, HQ4.out]; exact hown1, Below.grown (gE.alloc _) hgrow1 (by simp; omega) (fun q hq => (HON.out.lt q hq).1)⟩
                case measure => simp [intOf]; omega
              · have q1 : decide (cc < m) = false := decide_eq_false hcm
                have HQ2 := Lib.hid (show namesF xs ps m (j + 1) = namesF xs ps m j from by rw [HSt.out, q1, if_neg (by decide), List.append_nil])
                clear HSt
                go_wp2_with fail
                go_roundw
                case rel => exact ⟨j + 1, by omega, by go_num, by rw [HQ2.out]; exact HON.out, gE⟩
                case measure => simp [intOf]; omega
        · obtain rfl : j = ol := by omega
          have hj2 : ¬ (j : Int) < j := by omega
          have hS := strs_of_owns hown2 rfl
          obtain ⟨q, l, kk, e⟩ := strs_slice hS
          rw [e] at hS
          clear hown2
          go_wp2_with fail
          go_ret
          exact ⟨q, l, kk, rfl, by rw [HPs.out, HPl.out]; exact hS, gO.trans gq⟩
end Go.Proofs.YtenhodepaoaiiaaGreatDoor
