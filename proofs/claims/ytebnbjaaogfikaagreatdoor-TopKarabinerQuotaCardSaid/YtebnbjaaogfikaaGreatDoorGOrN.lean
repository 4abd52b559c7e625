/- Rounds of results: who goes on, with one place more; a first value raised. Plain. -/
import Derived.Test.YtebnbjaaogfikaaGreatDoorGResB
import Derived.Test.YtebnbjaaogfikaaGreatDoorGThF
namespace Go.Proofs.YtebnbjaaogfikaaGreatDoor
open Go.RowKit Go.Lib
set_option linter.unusedSimpArgs false
set_option linter.unusedVariables false
def fineB (bs : List Bare) : List Bare := bs.filter fun b => b.st.toList.isEmpty
theorem fine_bare (xs : List RowR) : (fine xs).map bare = fineB (xs.map bare) := by
  unfold fine fineB
  rw [List.filter_map]
  rfl
def thruB (bs : List Bare) (m : Int) : List ByteArray := goOn m (srtP (pls ((fineB bs).map fun b => b.nm) (ranksB (fineB bs))))
theorem thru_bare (xs : List RowR) (m : Int) : thru xs m = thruB (xs.map bare) m := by
  unfold thru thruB
  rw [← fine_bare, ranksL_bare, List.map_map]
  rfl
theorem sorted_prefix {m m' : Int} (hm : m ≤ m') : ∀ (ps : List PlR), ps.Pairwise (fun a b => a.rk ≤ b.rk) → (ps.filter fun p => decide (p.rk ≤ m)) <+: (ps.filter fun p => decide (p.rk ≤ m'))
  | [], _ => List.prefix_refl _
  | p :: ps, h => by
    rw [List.pairwise_cons] at h
    by_cases h1 : p.rk ≤ m
    · rw [List.filter_cons_of_pos (by simpa using h1), List.filter_cons_of_pos (by simp; omega)]
      exact List.cons_prefix_cons.2 ⟨rfl, sorted_prefix hm ps h.2⟩
    · have : (ps.filter fun q => decide (q.rk ≤ m)) = [] := by
        rw [List.filter_eq_nil_iff]
        intro q hq
        have := h.1 q hq
        simp; omega
      rw [List.filter_cons_of_neg (by simpa using h1), this]
      exact List.nil_prefix
theorem srtP_pairwise (ps : List PlR) : (srtP ps).Pairwise (fun a b => a.rk ≤ b.rk) := by
  rw [List.pairwise_iff_getElem]
  intro i j hi hj hij
  exact (srtP_spec ps).2.2 i j _ _ hij (List.getElem?_eq_getElem hi) (List.getElem?_eq_getElem hj)
theorem goOn_prefix {m m' : Int} (hm : m ≤ m') (ps : List PlR) : goOn m (srtP ps) <+: goOn m' (srtP ps) := by
  unfold goOn
  obtain ⟨t, ht⟩ := sorted_prefix hm _ (srtP_pairwise ps)
  exact ⟨t.map fun p => p.nm, by rw [← List.map_append, ht]⟩
theorem thruB_prefix {m m' : Int} (hm : m ≤ m') (bs : List Bare) : thruB bs m <+: thruB bs m' := goOn_prefix hm _
theorem goOn_len (m : Int) (ps : List PlR) : (goOn m ps).length ≤ ps.length := by
  unfold goOn; rw [List.length_map]; exact List.length_filter_le _ _
theorem thruB_len (bs : List Bare) (m : Int) : (thruB bs m).length ≤ bs.length := by
  refine Nat.le_trans (goOn_len _ _) ?_
  rw [(srtP_spec _).2.1, pls_len _ _ (fineB bs).length (by simp) (ranksB_len _)]
  exact List.length_filter_le _ _
theorem firstE_all : ∀ {l : List Int}, (∀ x ∈ l, x = 0) → firstE l = 0
  | [], _ => rfl
  | x :: l, h => by simp only [firstE]; rw [if_pos (h x (by simp))]; exact firstE_all fun y hy => h y (List.mem_cons_of_mem _ hy)
/-- a greater first value -/
def up (b : Bare) (v : Int) (t : List Int) : Bare := ⟨b.nm, b.st, (v + 1) :: t⟩
theorem resE_up {b : Bare} {v : Int} {t : List Int} (hb : b.xs = v :: t) (hv : v < 999999999) (h : resE b.nm b.st b.xs = 0) : resE (up b v t).nm (up b v t).st (up b v t).xs = 0 := by
  have hz := firstE_zero h
  rw [hb] at hz
  apply firstE_all
  intro x hx
  simp only [List.mem_cons, List.not_mem_nil, or_false] at hx hz
  show x = 0
  rcases hx with rfl | rfl | rfl | rfl | rfl
  · exact hz _ (.inl rfl)
  · exact hz _ (.inr (.inl rfl))
  · exact hz _ (.inr (.inr (.inl rfl)))
  · exact hz _ (.inr (.inr (.inr (.inl rfl))))
  · have h5 := hz _ (.inr (.inr (.inr (.inr rfl))))
    unfold valsE at h5 ⊢
    have hz5 := firstE_zero h5
    apply firstE_all
    intro y hy
    simp only [up, List.map_cons, List.mem_cons] at hy
    rcases hy with rfl | hy
    · have := outE_zero.1 (hz5 (outE v (-999999999) 999999999) (by simp))
      exact outE_zero.2 ⟨by omega, by omega⟩
    · exact hz5 y (by simp only [List.map_cons, List.mem_cons]; exact .inr hy)
theorem cmpB_up {b : Bare} {v : Int} {t : List Int} (hb : b.xs = v :: t) : cmpB (up b v t) b ≤ 0 := by
  unfold cmpB ordZ up
  rw [hb]
  simp only [cmpZ_self, firstE, if_true]
  rcases cmpZ_cases v (v + 1) with ⟨h, e⟩ | ⟨h, e⟩ | ⟨h, e⟩
  · have : cmpL (v :: t) ((v + 1) :: t) = -1 := by simp [cmpL, e]
    rw [this]; omega
  · omega
  · omega
theorem valid_up {bs : List Bare} {k : Nat} {b : Bare} {v : Int} {t : List Int} (h : ValidB bs) (hk : bs[k]? = some b) (hb : b.xs = v :: t) (hv : v < 999999999) : ValidB (bs.set k (up b v t)) := by
  have hkl := (List.getElem?_eq_some_iff.1 hk).1
  have hbm := List.mem_of_getElem? hk
  have hmem : ∀ c ∈ bs.set k (up b v t), c ∈ bs ∨ c = up b v t := fun c hc => List.mem_or_eq_of_mem_set hc
  have hupl : (up b v t).xs.length = b.xs.length := by rw [hb]; simp [up]
  refine ⟨fun c hc => ?_, ?_, fun c hc d hd hcs hds => ?_⟩
  · rcases hmem c hc with hc | rfl
    · exact h.each c hc
    · exact resE_up hb hv (h.each b hbm)
  · have : (bs.set k (up b v t)).map (fun b => b.nm.toList) = bs.map fun b => b.nm.toList := by
      apply List.ext_getElem?
      intro i
      rw [List.getElem?_map, List.getElem?_map, List.getElem?_set]
      by_cases hki : k = i
      · subst hki; rw [if_pos rfl, if_pos hkl, hk]; rfl
      · rw [if_neg hki]
    rw [this]; exact h.apart
  · have key : ∀ c, (c ∈ bs ∨ c = up b v t) → c.st.toList.isEmpty = true → ∃ c' ∈ bs, c'.st.toList.isEmpty = true ∧ c.xs.length = c'.xs.length := fun c hc hs => by
      rcases hc with hc | rfl
      · exact ⟨c, hc, hs, rfl⟩
      · exact ⟨b, hbm, hs, hupl⟩
    obtain ⟨c', hc', hcs', e1⟩ := key c (hmem c hc) hcs
    obtain ⟨d', hd', hds', e2⟩ := key d (hmem d hd) hds
    rw [e1, e2]; exact h.even c' hc' d' hd' hcs' hds'
theorem rank_up {bs : List Bare} {k : Nat} {b : Bare} {v : Int} {t : List Int} (hk : bs[k]? = some b) (hb : b.xs = v :: t) : rankB (bs.set k (up b v t)) (up b v t) ≤ rankB bs b := by
  obtain ⟨hkl, hkb⟩ := List.getElem?_eq_some_iff.1 hk
  have hup := cmpB_up hb
  have key : ∀ c, decide (cmpB c (up b v t) < 0) = true → decide (cmpB c b < 0) = true := fun c hc => by
    have hc' : cmpB c (up b v t) < 0 := by simpa using hc
    by_cases h2 : cmpB c b < 0
    · simpa using h2
    · have f1 := cmpB_flip c b
      have f2 := cmpB_flip c (up b v t)
      have := cmpB_trans (up b v t) b c hup (by omega)
      omega
  unfold rankB
  have e1 : bs.set k (up b v t) = bs.take k ++ up b v t :: bs.drop (k + 1) := by rw [List.set_eq_take_append_cons_drop, if_pos hkl]
  have e2 : bs = bs.take k ++ b :: bs.drop (k + 1) := by rw [← hkb, ← List.drop_eq_getElem_cons hkl, List.take_append_drop]
  have c1 : (bs.set k (up b v t)).countP (fun c => decide (cmpB c (up b v t) < 0)) ≤ bs.countP fun c => decide (cmpB c b < 0) := by
    rw [e1]
    conv => rhs; rw [e2]
    rw [List.countP_append, List.countP_append, List.countP_cons, List.countP_cons, cmpB_self]
    have m1 := List.countP_mono_left (l := bs.take k) (fun c _ => key c)
    have m2 := List.countP_mono_left (l := bs.drop (k + 1)) (fun c _ => key c)
    simp only [Int.lt_irrefl, decide_false, Bool.false_eq_true, if_false]
    split <;> omega
  omega
/-- copies read as the same results -/
theorem Cps.bare {w : World} {base : Nat} {xs ys : List RowR} {gs : List Nat} (h : Cps w base xs gs ys) : ys.map bare = xs.map bare := by
  apply List.ext_getElem?
  intro i
  rw [List.getElem?_map, List.getElem?_map]
  by_cases hi : i < xs.length
  · have hy : i < ys.length := by rw [h.leny]; exact hi
    have hg : i < gs.length := by rw [h.leng]; exact hi
    have c := h.cpy i _ _ _ (List.getElem?_eq_getElem hi) (List.getElem?_eq_getElem hy) (List.getElem?_eq_getElem hg)
    rw [List.getElem?_eq_getElem hi, List.getElem?_eq_getElem hy]
    simp only [Option.map_some, Go.Proofs.YtebnbjaaogfikaaGreatDoor.bare, c.nm, c.st, c.xs]
  · rw [List.getElem?_eq_none (l := xs) (by omega), List.getElem?_eq_none (l := ys) (by rw [h.leny]; omega)]
/-- a copied value reads as integers -/
theorem Cpy.val {w : World} {g : Nat} {x y : RowR} (h : Cpy w g x y) : IntsV w y.u y.xs := by
  obtain ⟨cap, hu, hc1, hc2⟩ := h.u
  obtain ⟨cur, hg, ht⟩ := h.cells
  rw [hu, h.xs]
  refine ⟨_, cap, rfl, fun h0 => ⟨g, 0, rfl, fun i z hz => ?_⟩⟩
  have hi := (List.getElem?_eq_some_iff.1 hz).1
  have e : (cur.toList.take x.xs.length)[i]? = some (.int .i64 z) := by rw [ht]; simp [ints, hz]
  rw [List.getElem?_take, if_pos hi, Array.getElem?_toList] at e
  rw [Nat.zero_add, cell_of_row w g i _ 3 (0, 0) hg, e]
end Go.Proofs.YtebnbjaaogfikaaGreatDoor
namespace Go.Proofs.YtebnbjaaogfikaaGreatDoor
open Go.RowKit Go.Lib
set_option linter.unusedSimpArgs false
set_option linter.unusedVariables false
set_option maxHeartbeats 2000000 in
set_option maxRecDepth 100000 in
theorem through_pos (hS : SortFOK) (I : InsOK) (xs : List RowR) (n b off cap : Nat) (m : Int) (w : World) (hn : xs.length = n) (h0 : 0 < n) (h1 : n < 20) (hcap : n ≤ cap) (hmx : cap ≤ maxLen) (hSt : StatesIn w)
    (hc : ∀ i x, xs[i]? = some x → RowAt w b (off + i * 3) x) (hE : rowFrom xs (firstV xs) n 0 = 0) (hm : outE m 0 160 = 0) :
    Calls Tryz.prog 8 #[.slice (some ⟨b, off, none⟩) n cap, .int .i64 m] w fun e w' => ∃ v, e = .returned (.tuple #[v, .int .i64 0]) ∧ StrsV w' v (thru xs m) ∧ Gr w w' := by
  obtain ⟨i0, hi, hz0, hz1, hz2⟩ := info_parts infoRes
  obtain ⟨i1, hj, hy0, hy1, hy2⟩ := info_parts infoTh
  have HC := Lib.hid (checkRound_pos xs n b off cap w hn (by omega) hcap hmx hSt hc)
  rw [hE] at HC
  have HRg := Lib.hid (fun W => range_c m 0 160 W)
  rw [hm] at HRg
  have HF := Lib.hid (fun b cap W => first_pair 0 0 b cap W)
  have HFz : Hid (firstE [0, 0] = 0) := rfl
  have HM := Lib.hid (fun (ys : List RowR) (v : Value) (W : World) h a s q => mid_c hS I ys w.heap.size (v := v) (w := W) h a s q)
  have HV := Lib.hid (fun c s p n cap W => hasValues_c c s (.slice p n cap) ⟨p, n, cap, rfl⟩ W)
  have HX := Lib.hid (fun k (h : k < n) => (show ∃ x, xs[k]? = some x from ⟨xs[k]'(by omega), List.getElem?_eq_getElem _⟩))
  have HCc := Lib.hid hc
  have HN := Lib.hid hn
  have HFl := Lib.hid (fun k => (show (fine (xs.take k)).length < 20 from by have := fine_le (xs.take k); rw [List.length_take] at this; omega))
  have HT : Hid (thru xs m = goOn m (srtP (pls ((fine xs).map fun x => x.nm) (ranksL (fine xs))))) := rfl
  have HSt : Hid (StatesIn w) := hSt
  clear hc hn hE hm hSt hS I hcap hmx
  go_enter Tryz.func8, Tryz.ntmps8
  go_wp2_with fail
  refine HC.out.mono ?_
  rintro e w0 ⟨rfl, g0⟩
  go_wp2_with fail
  refine (HRg.out _).mono ?_
  rintro e w0' ⟨rfl, rfl⟩
  go_wp2_with fail
  refine (HF.out _ _ _ (by exact cell_new _ #[_, _] _ 0 (by simp)) (by exact cell_new _ #[_, _] _ 1 (by simp))).mono ?_
  rintro e w0'' ⟨rfl, rfl⟩
  rw [HFz.out]
  have g1 : Gr w (w0.alloc (.cells #[.int .i64 0, .int .i64 0] 28)) := g0.alloc _
  generalize w0.alloc (.cells #[.int .i64 0, .int .i64 0] 28) = W1 at *
  go_wp2_with fail
  go_loopw [7, 24] (fun v i wr => ∃ k : Nat, k ≤ n ∧ i = .int .i64 k ∧ wr.ownsRow w.heap.size 34 3 v (fine (xs.take k)).length (rowCs (fine (xs.take k))) ∧ Gr w wr) (fun _ i _ => n - (intOf i).toNat)
  case atStart => exact ⟨0, Nat.zero_le _, rfl, World.ownsRow_nil _ _ _ _, g1⟩
  case round =>
    obtain ⟨k, hk, rfl, hown, hnx⟩ := hrel
    have hsize := hnx.size
    by_cases hkN : k < n
    · obtain ⟨x, hx⟩ := HX.out k hkN
      obtain ⟨c0, c1, c2, hv, _⟩ := (HCc.out k x hx).gr hnx
      obtain ⟨⟨p', cap', hu, _⟩⟩ := hv
      rw [hu] at c2
      have HQ := Lib.hid (fine_take hx)
      have HL := Lib.hid (HFl.out k)
      have HRc := Lib.hid (rowCs_len (fine (xs.take k)))
      have hi2 : (k : Int) < n := by omega
      cases hh : hasV x
      · have hh2 : x.st.toList.isEmpty = false := hh
        have HQ2 := Lib.hid (show fine (xs.take (k + 1)) = fine (xs.take k) from by
          have := HQ.out; rw [hh] at this; simpa using this)
        have HVx := Lib.hid (fun W => HV.out x.nm x.st p' x.xs.length cap' W)
        rw [hh2] at HVx
        have HOW := Lib.hid (fun W (g : Gr wr W) => own_gr hown g)
        clear hown hx hh hh2
        go_wp2_with (refine (HVx.out _).mono ?_; rintro e wq ⟨rfl, gq⟩)
        go_roundw
        case rel =>
          have gz := ((Gr.refl wr).alloc _).trans gq
          exact ⟨k + 1, by omega, by go_num, by rw [HQ2.out]; exact HOW.out _ gz, hnx.trans gz⟩
        case measure => simp [intOf]; omega
      · have hh2 : x.st.toList.isEmpty = true := hh
        have HQ2 := Lib.hid (show fine (xs.take (k + 1)) = fine (xs.take k) ++ [x] from by
          have := HQ.out; rw [hh] at this; simpa using this)
        have HQ3 := Lib.hid (show rowCs (fine (xs.take k) ++ [x]) = rowCs (fine (xs.take k)) ++ [.string x.nm, .string x.st, .slice p' x.xs.length cap'] from by rw [rowCs_add]; unfold rowC; rw [hu])
        have HQ4 := Lib.hid (show (fine (xs.take k) ++ [x]).length = (fine (xs.take k)).length + 1 from by simp)
        have HVx := Lib.hid (fun W => HV.out x.nm x.st p' x.xs.length cap' W)
        rw [hh2] at HVx
        have HOW := Lib.hid (fun W (g : Gr wr W) => own_gr hown g)
        have hl20 := HL.out
        clear hown hx hh hh2 hu
        generalize (fine (xs.take k)).length = q at *
        go_wp2_with (first
          | (refine (HVx.out _).mono ?_; rintro e wq ⟨rfl, gq⟩; have gz := ((Gr.refl wr).alloc _).trans gq; have hsz := gz.size; have cc0 := gq.cell (cell_new wr #[.string x.nm, .string x.st, .slice p' x.xs.length cap'] 34 0 (by simp)); have cc1 := gq.cell (cell_new wr #[.string x.nm, .string x.st, .slice p' x.xs.length cap'] 34 1 (by simp)); have cc2 := gq.cell (cell_new wr #[.string x.nm, .string x.st, .slice p' x.xs.length cap'] 34 2 (by simp)); simp only [List.getElem_toArray, List.getElem_cons_zero, List.getElem_cons_succ] at cc0 cc1 cc2)
          | (at_builtin; refine wpList_append_own _ rfl _ _ 22 rfl w.heap.size 34 i0 (.agg #[.string ⟨#[]⟩, .string ⟨#[]⟩, .slice none 0 0]) 3 56 Tryz.underlying22 hi hz0 hz1 hz2 rfl (by decide) _ _ _ rfl ((HOW.out _ gz).alloc _) ⟨wq.heap.size, 0, none⟩ 1 1 [.string x.nm, .string x.st, .slice p' x.xs.length cap'] rfl rfl (cell_three_own _ _ _ _ _) (by intro u hu; simp at hu; rcases hu with rfl | rfl | rfl <;> rfl) (by unfold maxLen; omega) (by omega) (by simp; omega) ?_; intro v1 w1 hown1 hgrow1 hnil1))
        go_roundw
        case rel =>
          exact ⟨k + 1, by omega, by go_num, by rw [HQ2.out, HQ3.out, HQ4.out]; exact hown1, Below.grown ((hnx.trans gz).alloc _) hgrow1 (by simp; omega) (fun j hj => ((HOW.out _ gz).lt j hj).1)⟩
        case measure => simp [intOf]; omega
    · obtain rfl : k = n := by omega
      rw [List.take_of_length_le (by have := HN.out; omega)] at hown
      have hlf : (fine xs).length < 20 := by have := HFl.out k; rwa [List.take_of_length_le (by have := HN.out; omega)] at this
      have hvals : ∀ (i : Nat) (x : RowR), (fine xs)[i]? = some x → IntsV wr x.u x.xs ∧ x.xs.length ≤ 1000 := fun i x hx => by
        have hmem : x ∈ xs := (List.mem_filter.1 (List.mem_of_getElem? hx)).1
        obtain ⟨j, hj⟩ := List.mem_iff_getElem?.1 hmem
        have := (HCc.out j x hj).gr hnx
        exact ⟨this.val, this.len⟩
      obtain ⟨p, cap7, rfl, hM⟩ := HM.out (fine xs) _ wr hown hlf (HSt.out.gr hnx) hvals
      have HM2 := Lib.hid hM
      have hplen : (srtP (pls ((fine xs).map fun x => x.nm) (ranksL (fine xs)))).length = (fine xs).length := by
        rw [(srtP_spec _).2.1]; exact pls_len _ _ _ (by simp) (ranksL_len _)
      generalize srtP (pls ((fine xs).map fun x => x.nm) (ranksL (fine xs))) = ps at *
      have hlf := hplen ▸ hlf
      have HLf := Lib.hid hlf
      have HPl := Lib.hid hplen
      clear hM HM HX HCc HN HFl hvals hown HC HRg HF hplen hi hz0 hz1 hz2
      go_wp2_with fail
      refine HM2.out.mono ?_
      rintro e wa ⟨p1, cap1, rfl, ga, HR⟩
      go_wp2_with fail
      refine (HR _ (Gr.refl _)).mono ?_
      rintro e wb ⟨p2, cap2, rfl, gb, HP⟩
      go_wp2_with fail
      refine (HP _ (Gr.refl _)).mono ?_
      rintro e wc ⟨v3, rfl, hps, gc⟩
      have g4 : Gr w wc := hnx.trans (ga.trans (gb.trans gc))
      obtain ⟨⟨p3, cap3, rfl, hp3⟩⟩ := hps
      have HP3 := Lib.hid hp3
      clear hp3 HR HP HM2 ga gb gc hnx
      have hl2 := HLf.out
      have HGet := Lib.hid (fun k (h : k < ps.length) => (show ∃ x, ps[k]? = some x from ⟨ps[k]'h, List.getElem?_eq_getElem _⟩))
      go_wp2_with fail
      go_loopw [10, 41] (fun v i wr => ∃ k : Nat, k ≤ ps.length ∧ i = .int .i64 k ∧ wr.ownsRow wc.heap.size 9 1 v (goOn m (ps.take k)).length (strsV (goOn m (ps.take k))) ∧ Gr wc wr) (fun _ i _ => ps.length - (intOf i).toNat)
      case atStart => exact ⟨0, Nat.zero_le _, rfl, World.ownsRow_nil _ _ _ _, Gr.refl _⟩
      case round =>
        obtain ⟨q, hq, rfl, hown, hnc⟩ := hrel
        have hsize := hnc.size
        by_cases hqN : q < ps.length
        · obtain ⟨bq, rfl, hpa⟩ := HP3.out (by omega)
          obtain ⟨x, hx⟩ := HGet.out q hqN
          obtain ⟨c0, c1⟩ := (hpa q x hx).gr hnc
          have HQ := Lib.hid (goOn_take (m := m) hx)
          have HL := Lib.hid (show (goOn m (ps.take q)).length < 20 from by unfold goOn; rw [List.length_map]; have := List.length_filter_le (fun p => decide (p.rk ≤ m)) (ps.take q); rw [List.length_take] at this; omega)
          have hi2 : (q : Int) < ps.length := by omega
          have hl20 := HL.out
          by_cases hle : x.rk ≤ m
          · have HQ2 := Lib.hid (show goOn m (ps.take (q + 1)) = goOn m (ps.take q) ++ [x.nm] from by rw [HQ.out, if_pos (by simp [hle])])
            have HQ3 := Lib.hid (show strsV (goOn m (ps.take q) ++ [x.nm]) = strsV (goOn m (ps.take q)) ++ [.string x.nm] from by simp [strsV])
            have HQ4 := Lib.hid (show (goOn m (ps.take q) ++ [x.nm]).length = (goOn m (ps.take q)).length + 1 from by simp)
            have HRc := Lib.hid (show (strsV (goOn m (ps.take q))).length = (goOn m (ps.take q)).length from by simp [strsV])
            clear hx hpa HGet
            generalize (goOn m (ps.take q)).length = z at *
            go_wp2_with (first
              | (at_builtin; refine wpList_append_own _ rfl _ _ 23 rfl wc.heap.size 9 i1 (.string ⟨#[]⟩) 1 16 Tryz.underlying23 hj hy0 hy1 hy2 rfl (by decide) _ _ _ rfl ((hown.alloc _).alloc _) ⟨wr.heap.size + 1, 0, none⟩ 1 1 [.string x.nm] rfl rfl (cell_one_two _ _ _ _) (by intro u hu; simp at hu; subst hu; rfl) (by unfold maxLen; omega) (by omega) (by simp; omega) ?_; intro v1 w1 hown1 hgrow1 hnil1))
            go_roundw
            case rel =>
              exact ⟨q + 1, by omega, by go_num, by rw [HQ2.out, HQ3.out, HQ4.out]; exact hown1, Below.grown ((hnc.alloc _).alloc _) hgrow1 (by simp; omega) (fun j hj => (hown.lt j hj).1)⟩
            case measure => simp [intOf]; omega
          · have HQ2 := Lib.hid (show goOn m (ps.take (q + 1)) = goOn m (ps.take q) from by rw [HQ.out, if_neg (by simp [hle])]; simp)
            have HOW := Lib.hid (fun W (g : Gr wr W) => own_gr hown g)
            clear hx hpa HGet hown
            go_wp2_with fail
            go_roundw
            case rel =>
              exact ⟨q + 1, by omega, by go_num, by rw [HQ2.out]; exact HOW.out _ ((Gr.refl wr).alloc _), hnc.alloc _⟩
            case measure => simp [intOf]; omega
        · obtain rfl : q = ps.length := by omega
          rw [List.take_length] at hown
          go_wp2_with fail
          exact bodyPost_ret (v := .tuple #[u10, .int .i64 0]) (by simp [results, Tryz.results8, go_sem]) rfl ⟨_, rfl, by rw [HT.out]; exact strs_of_owns hown rfl, g4.trans hnc⟩
end Go.Proofs.YtebnbjaaogfikaaGreatDoor
namespace Go.Proofs.YtebnbjaaogfikaaGreatDoor
open Go.RowKit Go.Lib
set_option linter.unusedSimpArgs false
set_option linter.unusedVariables false
/-- rows that have been made of copies -/
structure Made (w : World) (base : Nat) (xs zs : List RowR) : Prop where
  len : zs.length = xs.length
  cpy : ∀ (i : Nat) (x z : RowR), xs[i]? = some x → zs[i]? = some z → ∃ g, base ≤ g ∧ Cpy w g x z
theorem Cps.made {w : World} {base : Nat} {xs ys : List RowR} {gs : List Nat} (h : Cps w base xs gs ys) : Made w base xs ys :=
  ⟨h.leny, fun i x z hx hz => by
    have hg : i < gs.length := by rw [h.leng]; exact (List.getElem?_eq_some_iff.1 hx).1
    exact ⟨_, (h.rng _ (List.getElem_mem hg)).1, h.cpy i x z _ hx hz (List.getElem?_eq_getElem hg)⟩⟩
theorem Made.gr {w w' : World} {base : Nat} {xs zs : List RowR} (h : Made w base xs zs) (k : Gr w w') : Made w' base xs zs :=
  ⟨h.len, fun i x z hx hz => by
    obtain ⟨g, hb, c⟩ := h.cpy i x z hx hz
    obtain ⟨cur, h1, _⟩ := c.cells
    exact ⟨g, hb, c.gr (by rw [k.block h1, h1])⟩⟩
theorem Made.kept {w w' : World} {base b2 s2 n2 : Nat} {xs zs : List RowR} {T2 : TypeId} {v2 : Value} {l2 : List Value} (h : Made w base xs zs) (ho : w.ownsRow b2 T2 s2 v2 n2 l2) (hne : (3 : TypeId) ≠ T2) (hg : w.grownBy w' v2.ownBlock) : Made w' base xs zs :=
  ⟨h.len, fun i x z hx hz => by
    obtain ⟨g, hb, c⟩ := h.cpy i x z hx hz
    obtain ⟨cur, h1, _⟩ := c.cells
    exact ⟨g, hb, c.gr (hg.block g (Array.getElem?_eq_some_iff.1 h1).1 (cell_apart h1 ho hne))⟩⟩
theorem Made.bare {w : World} {base : Nat} {xs zs : List RowR} (h : Made w base xs zs) : zs.map bare = xs.map Go.Proofs.YtebnbjaaogfikaaGreatDoor.bare := by
  apply List.ext_getElem?
  intro i
  rw [List.getElem?_map, List.getElem?_map]
  by_cases hi : i < xs.length
  · have hz : i < zs.length := by rw [h.len]; exact hi
    obtain ⟨g, _, c⟩ := h.cpy i _ _ (List.getElem?_eq_getElem hi) (List.getElem?_eq_getElem hz)
    rw [List.getElem?_eq_getElem hi, List.getElem?_eq_getElem hz]
    simp only [Option.map_some, Go.Proofs.YtebnbjaaogfikaaGreatDoor.bare, c.nm, c.st, c.xs]
  · rw [List.getElem?_eq_none (l := xs) (by omega), List.getElem?_eq_none (l := zs) (by rw [h.len]; omega)]
theorem Made.rows {w : World} {base b1 n : Nat} {v : Value} {xs zs : List RowR} {T : TypeId} (h : Made w base xs zs) (ho : w.ownsRow b1 T 3 v n (rowCs zs)) (hn : xs.length = n) (hl : ∀ x ∈ xs, x.xs.length ≤ 1000) : RowsV w v zs := by
  have hzn : zs.length = n := by rw [h.len, hn]
  by_cases h0 : 0 < n
  · obtain ⟨g, cap, rfl, _, h1, h2, h3⟩ := rows_of_owns (ys := zs) (by rw [hzn]; exact ho) (by omega) (fun i z hz => by
      have hx : i < xs.length := by rw [← h.len]; exact (List.getElem?_eq_some_iff.1 hz).1
      obtain ⟨g, _, c⟩ := h.cpy i _ z (List.getElem?_eq_getElem hx) hz
      exact ⟨c.val, by rw [c.xs]; exact hl _ (List.getElem_mem hx)⟩)
    exact ⟨_, cap, rfl, ⟨by omega, by omega⟩, fun _ => ⟨g, 0, rfl, fun i x hx => h3 i x hx⟩⟩
  · have hz : n = 0 := by omega
    subst hz
    rcases ho.2 with ⟨rfl, _⟩ | ⟨g, cap, cur, rfl, _, hg, hle, hmx, _, _⟩
    · exact ⟨none, 0, by rw [hzn], ⟨by omega, by unfold maxLen; omega⟩, fun h => by omega⟩
    · exact ⟨_, cap, by rw [hzn], ⟨by omega, by omega⟩, fun h => by omega⟩
theorem Made.nil (w : World) (base : Nat) : Made w base [] [] := ⟨rfl, fun i x z h => by simp at h⟩
theorem Made.add {w : World} {base g : Nat} {xs zs : List RowR} {x z : RowR} (h : Made w base xs zs) (hg : base ≤ g) (hc : Cpy w g x z) : Made w base (xs ++ [x]) (zs ++ [z]) := by
  refine ⟨by simp [h.len], fun i x' z' hx hz => ?_⟩
  by_cases hi : i < xs.length
  · rw [List.getElem?_append_left hi] at hx
    rw [List.getElem?_append_left (by rw [h.len]; exact hi)] at hz
    exact h.cpy i x' z' hx hz
  · have hl := (List.getElem?_eq_some_iff.1 hx).1
    simp only [List.length_append, List.length_cons, List.length_nil] at hl
    have e : i = xs.length := by omega
    subst e
    rw [List.getElem?_append_right (Nat.le_refl _), Nat.sub_self] at hx
    rw [List.getElem?_append_right (by rw [h.len]; exact Nat.le_refl _), h.len, Nat.sub_self] at hz
    simp only [List.getElem?_cons_zero, Option.some.injEq] at hx hz
    subst hx hz
    exact ⟨g, hg, hc⟩
theorem through_ok (hS : SortFOK) (I : InsOK) {ys : List RowR} {v : Value} {W : World} (h : RowsV W v ys) (h0 : 0 < ys.length) (h1 : ys.length < 20) (hSt : StatesIn W) (hV : ValidB (ys.map bare)) (m : Int) (hm : 0 ≤ m ∧ m ≤ 160) :
    Calls Tryz.prog 8 #[v, .int .i64 m] W fun e w' => ∃ u, e = .returned (.tuple #[u, .int .i64 0]) ∧ StrsV w' u (thruB (ys.map bare) m) ∧ Gr W w' := by
  obtain ⟨⟨p, cap, rfl, hcap, hh⟩⟩ := h
  obtain ⟨b, off, rfl, hc⟩ := hh h0
  rw [← thru_bare]
  exact through_pos hS I ys _ b off cap m W rfl h0 h1 hcap.1 hcap.2 hSt hc (zero_of_valid hV) (outE_zero.2 hm)
end Go.Proofs.YtebnbjaaogfikaaGreatDoor
