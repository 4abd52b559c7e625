/- Races: the reference's CheckRaces. -/
import Derived.Test.YthfmgficbnmmnaaGreatDoorRdJ
namespace Go.Proofs.YthfmgficbnmmnaaGreatDoor
open Go.RowKit Go.Lib
set_option linter.unusedSimpArgs false
set_option linter.unusedVariables false
/-- the names of a race -/
def nmsR (r : RaR) : List ByteArray := (if r.a.toList = [] then [] else [r.a]) ++ (if r.b.toList = [] then [] else [r.b])
/-- the names of races -/
def nmsL (l : List RaR) : List ByteArray := l.flatMap nmsR
theorem nmsL_take {l : List RaR} {i : Nat} {x : RaR} (h : l[i]? = some x) : nmsL (l.take (i + 1)) = nmsL (l.take i) ++ nmsR x := by
  rw [List.take_add_one, h]; simp [nmsL]
theorem nmsL_len (l : List RaR) : (nmsL l).length ≤ 2 * l.length := by
  induction l with
  | nil => simp [nmsL]
  | cons x xs ih =>
    have h1 : (nmsR x).length ≤ 2 := by unfold nmsR; split <;> split <;> simp
    simp only [nmsL, List.flatMap_cons, List.length_append, List.length_cons] at *
    omega
theorem lane_any (P : ByteArray → Bool) (r : RaR) : (laneL r).any (fun y => P (inR y.1 y.2)) = (nmsR r).any P := by
  unfold laneL nmsR
  split <;> split <;> simp [inR]
theorem cl_any (P : ByteArray → Bool) (l : List RaR) : (clL l).any (fun y => P (inR y.1 y.2)) = (nmsL l).any P := by
  induction l with
  | nil => rfl
  | cons x xs ih =>
    have h1 := lane_any P x
    simp only [clL, nmsL, List.flatMap_cons, List.any_append] at *
    rw [h1, ih]
theorem nmsR_ne {r : RaR} {s : ByteArray} (h : s ∈ nmsR r) : s.toList ≠ [] := by
  unfold nmsR at h
  rcases List.mem_append.1 h with h | h
  · split at h
    · cases h
    · rename_i hn; simp at h; rw [h]; exact hn
  · split at h
    · cases h
    · rename_i hn; simp at h; rw [h]; exact hn
theorem nmsL_ne {l : List RaR} {s : ByteArray} (h : s ∈ nmsL l) : s.toList ≠ [] := by
  obtain ⟨r, _, hr⟩ := List.mem_flatMap.1 h
  exact nmsR_ne hr
theorem has_empty {l : List RaR} {s : ByteArray} (h : s.toList.isEmpty = true) : hasS (nmsL l) s = false := by
  unfold hasS
  rw [List.any_eq_false]
  intro t ht hq
  have := nmsL_ne ht
  have e := beq_iff_eq.1 hq
  rw [List.isEmpty_iff.1 h] at e
  exact this e.symm
theorem shares_has (ra rb : ByteArray) (l : List RaR) : sharesB ra rb l = (hasS (nmsL l) ra || hasS (nmsL l) rb) := by
  have := cl_any (fun s => s.toList == ra.toList || s.toList == rb.toList) l
  unfold sharesB hitC hasS
  rw [this]
  generalize nmsL l = xs
  induction xs with
  | nil => rfl
  | cons x t ih =>
    have i1 : (ra.toList == x.toList) = (x.toList == ra.toList) := Bool.beq_comm
    have i2 : (rb.toList == x.toList) = (x.toList == rb.toList) := Bool.beq_comm
    simp only [List.any_cons, ih, i1, i2]
    cases (x.toList == ra.toList) <;> cases (x.toList == rb.toList) <;> simp
theorem has_add (ns : List ByteArray) (t s : ByteArray) : hasS (ns ++ [t]) s = (hasS ns s || s.toList == t.toList) := by unfold hasS; simp
set_option maxRecDepth 100000 in
theorem refHas6_c {v : Value} {l : List ByteArray} {w : World} (h : StrAts w v l) (h1 : l.length ≤ 1000) (s : ByteArray) :
    Calls Tryz.prog 23 #[v, .string s] w fun e w' => e = .returned (.bool (hasS l s)) ∧ w = w' := by
  obtain ⟨⟨p, cap, rfl, _, hh⟩⟩ := h
  have := hasWordT_c l p l.length cap s w (Nat.le_refl _) h1 (fun h0 => by
    obtain ⟨b, off, e, hc⟩ := hh h0
    exact ⟨b, off, e, fun i t ht => (hc i t ht).nm⟩)
  rwa [List.take_length] at this
/-- the least power of two, as the reference finds it -/
structure PwI (n k : Nat) : Prop where
  mk' ::
  out : k ∈ [1, 2, 4, 8, 16, 32] ∧ (k = 1 ∨ k < 2 * n)
theorem PwI.next {n k : Nat} (h : PwI n k) (h1 : k < n) (h2 : k < 32) : PwI n (2 * k) := ⟨by
  obtain ⟨⟨h3, h4⟩⟩ := h
  simp only [List.mem_cons, List.not_mem_nil, or_false] at *
  omega⟩
theorem PwI.done {n k : Nat} (h : PwI n k) (h1 : n ≤ k ∨ 32 ≤ k) : (n = k ↔ n ∈ [1, 2, 4, 8, 16, 32]) := by
  obtain ⟨⟨h3, h4⟩⟩ := h
  simp only [List.mem_cons, List.not_mem_nil, or_false] at *
  omega
set_option maxHeartbeats 4000000 in
set_option maxRecDepth 100000 in
theorem refCheckRaces_c (l : List RaR) (v : Value) (w : World) (hv : RaV w v l) (hs : l.length ≤ 34) :
    Calls Tryz.prog 20 #[v] w fun e w' => e = .returned (.int .i64 (racesE l)) ∧ Gr w w' := by
  obtain ⟨i0, hi, hz0, hz1, hz2⟩ := info_parts infoStr6
  obtain ⟨⟨p, cap, rfl, ⟨hcap, hmx⟩, hr⟩⟩ := hv
  obtain ⟨n, hn⟩ : ∃ n, n = l.length := ⟨_, rfl⟩
  rw [← hn] at hcap hs ⊢
  have HN := Lib.hid hn
  have HR := Lib.hid hr.out
  have HPD : Hid (∀ k, PwI n k → (n ≤ k ∨ 32 ≤ k) → (if n = k then racesE l = errG (raE l) l n 0 else racesE l = 2)) := fun k h1 h2 => by
    have := h1.done h2
    unfold racesE
    rw [← hn]
    by_cases e : n = k
    · rw [if_pos e, if_pos (this.1 e)]
    · rw [if_neg e, if_neg (fun h => e (this.2 h))]
  clear hr hn
  go_enter Tryz.func20, Tryz.ntmps20
  go_wp2_with fail
  go_loopg [3] 40 (fun gk s3 wr => ∃ k : Nat, s3 = .int .i64 (k : Int) ∧ gk + k = 41 ∧ Hid (PwI n k) ∧ w = wr)
  case atStart => exact ⟨1, rfl, rfl, ⟨by simp, .inl rfl⟩, rfl⟩
  case round =>
    obtain ⟨k, rfl, hgk, HP, rfl⟩ := hrel
    by_cases h1 : k < n
    · have h1i : (k : Int) < (n : Int) := by omega
      by_cases h2 : k < 32
      · have h2i : (k : Int) < 32 := by omega
        have HP2 : Hid (PwI n (2 * k)) := HP.out.next h1 h2
        have hk1 : 1 ≤ k := by have := HP.out.out.1; simp only [List.mem_cons, List.not_mem_nil, or_false] at this; omega
        go_wp2_with fail
        go_roundg (41 - 2 * k)
        case measure => have := HP2.out.out.1; simp only [List.mem_cons, List.not_mem_nil, or_false] at this; omega
        case rel => exact ⟨2 * k, by go_num, by have := HP2.out.out.1; simp only [List.mem_cons, List.not_mem_nil, or_false] at this; omega, HP2, rfl⟩
      · have h2i : ¬ (k : Int) < 32 := by omega
        have HD := HPD.out k HP.out (by omega)
        rw [if_neg (by omega)] at HD
        have HDD := Lib.hid HD
        have hne : ((n : Int) != (k : Int)) = true := bne_iff_ne.2 (by omega)
        clear HD
        go_wp2_with fail
        go_ret
        exact ⟨by rw [HDD.out]; rfl, Gr.refl _⟩
    · have h1i : ¬ (k : Int) < (n : Int) := by omega
      have HD := HPD.out k HP.out (by omega)
      by_cases he : n = k
      · rw [if_pos he] at HD
        have HE := Lib.hid HD
        clear HD HPD HP hgk h1
        subst he
        have hne : ((n : Int) != (n : Int)) = false := bne_self_eq_false _
        go_wp2_with fail
        go_loopg [4, 5] n (fun gk s4 s5 wr => ∃ i : Nat, s5 = .int .i64 (i : Int) ∧ gk + i = n ∧ wr.ownsRow w.heap.size 9 1 s4 (nmsL (l.take i)).length (nmC (nmsL (l.take i))) ∧ Hid (Gr w wr) ∧ Hid (errG (raE l) l (n - i) i = errG (raE l) l n 0))
        case atStart => exact ⟨0, rfl, by omega, World.ownsRow_nil _ _ _ _, Gr.refl _, rfl⟩
        case round =>
          obtain ⟨i, rfl, hgk, hown, HG, HF⟩ := hrel
          by_cases hlt : i < n
          · obtain ⟨x, hx⟩ : ∃ x, l[i]? = some x := ⟨l[i]'(by have := HN.out; omega), List.getElem?_eq_getElem _⟩
            obtain ⟨b, off, rfl, hc⟩ := HR.out (by have := HN.out; omega)
            obtain ⟨a0, a1, a2⟩ := hc i x hx
            have HX := Lib.hid hx
            have HLS : Hid ((nmsL (l.take i)).length ≤ 2 * i) := by have := nmsL_len (l.take i); rw [List.length_take] at this; rw [Hid]; omega
            have hlt2 : (i : Int) < (n : Int) := by omega
            obtain ⟨xa, xb, xw⟩ := x
            simp only at a0 a1 a2
            have B0 := Lib.hid a0
            have B1 := Lib.hid a1
            have B2 := Lib.hid a2
            replace a0 := Gr.cell HG.out a0
            replace a1 := Gr.cell HG.out a1
            replace a2 := Gr.cell HG.out a2
            clear hx hc h1i hne
            have HA : (xa.toList = [] ∧ xa.toList.isEmpty = true) ∨ (¬ xa.toList = [] ∧ xa.toList.isEmpty = false) := by cases xa.toList <;> simp
            have HB : (xb.toList = [] ∧ xb.toList.isEmpty = true) ∨ (¬ xb.toList = [] ∧ xb.toList.isEmpty = false) := by cases xb.toList <;> simp
            have HN1 := Lib.hid (fun V => refIsName_c xa V)
            have HN2 := Lib.hid (fun V => refIsName_c xb V)
            have HOU := Lib.hid (fun V => outside6_c xw 0 3 V)
            have HWK := Lib.hid (fun V => walk_c xa xb V)
            obtain ⟨S0, hS0⟩ : ∃ S0, S0 = nmsL (l.take i) := ⟨_, rfl⟩
            rw [← hS0] at hown HLS
            obtain ⟨c1, hc1⟩ : ∃ c, c = ((!xa.toList.isEmpty && !decide (Nm xa)) || (!xb.toList.isEmpty && !decide (Nm xb))) := ⟨_, rfl⟩
            obtain ⟨c2, hc2⟩ : ∃ c, c = ((!xa.toList.isEmpty && xa.toList == xb.toList) || (hasS S0 xa || hasS S0 xb)) := ⟨_, rfl⟩
            obtain ⟨c4, hc4⟩ : ∃ c, c = (!(walkW xa xb == 0) && !(xw == walkW xa xb)) := ⟨_, rfl⟩
            have HE0 : Hid (raE l i ⟨xa, xb, xw⟩ = firstE [if c1 then 8 else 0, if c2 then 9 else 0, outE xw 0 3, if c4 then 19 else 0]) := by
              rw [Hid, hc1, hc2, hc4, hS0, ← shares_has]; rfl
            have HC1 := Lib.hid hc1
            have HC2 := Lib.hid hc2
            have HC4 := Lib.hid hc4
            have HEA : Hid (xa.toList.isEmpty = true → hasS S0 xa = false) := fun h => by rw [hS0]; exact has_empty h
            have HEB : Hid (xb.toList.isEmpty = true → hasS S0 xb = false) := fun h => by rw [hS0]; exact has_empty h
            have HTK : Hid (nmsL (l.take (i + 1)) = S0 ++ nmsR ⟨xa, xb, xw⟩) := by rw [hS0]; exact nmsL_take HX.out
            have HO3 : Hid (outE xw 0 3 = 3 ∨ outE xw 0 3 = 0) := by unfold Hid outE; cases outB xw 0 3 <;> simp
            have HWW : walkW xa xb = if xa.toList = [] then (if xb.toList = [] then 3 else 2) else if xb.toList = [] then 1 else 0 := rfl
            have HOWN := Lib.hid hown
            have gd := (Gr.refl wr).drew
            clear hown hS0 hc1 hc2 hc4
            go_wp2_with fail
            refine wp_region_held_drew (S := (fun w' => w'.cell? ⟨b, off + i * 3, none⟩ = some (.string xa) ∧ w'.cell? ⟨b, off + i * 3 + 1, none⟩ = some (.string xb) ∧ w'.cell? ⟨b, off + i * 3 + 2, none⟩ = some (.int .i64 xw))) (by kernel_rfl) ⟨gd.cell a0, gd.cell a1, gd.cell a2⟩ (fun hHeld => ?_)
            replace a0 := gd.cell a0
            replace a1 := gd.cell a1
            replace a2 := gd.cell a2
            have HOV : Hid (wr.drew.ownsRow w.heap.size 9 1 u4 S0.length (nmC S0)) := HOWN.out
            have HGV : Hid (Gr w wr.drew) := HG.out.drew
            clear HOWN HG gd
            generalize wr.drew = V at *
            refine wpAnyH_take (i := 0) (v := (.slice (some ⟨b, off, none⟩) n cap)) (op_at rfl) (by kernel_rfl) (by kernel_rfl) (by kernel_rfl) (fun _ _ _ h => h) (Or.inl ⟨rfl, fun w hSw => ?_⟩) (by assumption) ?_
            · (try dsimp only at hSw); go_simp; try with_reducible rfl
            (try simp only [Act.put, List.setIfInBounds_toArray, List.set_cons_zero, List.set_cons_succ])
            refine wpAnyH_take (i := 1) (v := (.int .i64 (i : Int))) (op_at rfl) (by kernel_rfl) (by kernel_rfl) (by kernel_rfl) (fun _ _ _ h => h) (Or.inl ⟨rfl, fun w hSw => ?_⟩) (by assumption) ?_
            · (try dsimp only at hSw); go_simp; try with_reducible rfl
            (try simp only [Act.put, List.setIfInBounds_toArray, List.set_cons_zero, List.set_cons_succ])
            refine wpAnyH_take (i := 2) (v := (.pointer (some ⟨b, off + i * 3, none⟩))) (op_at rfl) (by kernel_rfl) (by kernel_rfl) (by kernel_rfl) (fun _ _ _ h => h) (Or.inl ⟨rfl, fun w hSw => ?_⟩) (by assumption) ?_
            · (try dsimp only at hSw); go_simp; try with_reducible rfl
            (try simp only [Act.put, List.setIfInBounds_toArray, List.set_cons_zero, List.set_cons_succ])
            refine wpAnyH_take (i := 3) (v := (.pointer (some ⟨b, off + i * 3, none⟩))) (op_at rfl) (by kernel_rfl) (by kernel_rfl) (by kernel_rfl) (fun _ _ _ h => h) (Or.inl ⟨rfl, fun w hSw => ?_⟩) (by assumption) ?_
            · (try dsimp only at hSw); go_simp; try with_reducible rfl
            (try simp only [Act.put, List.setIfInBounds_toArray, List.set_cons_zero, List.set_cons_succ])
            refine wpAnyH_take (i := 4) (v := (.string xa)) (op_at rfl) (by kernel_rfl) (by kernel_rfl) (by kernel_rfl) (fun _ _ _ h => h) (Or.inl ⟨rfl, fun w hSw => ?_⟩) (by assumption) ?_
            · (try dsimp only at hSw); go_simp; try with_reducible rfl
            (try simp only [Act.put, List.setIfInBounds_toArray, List.set_cons_zero, List.set_cons_succ])
            refine wpAnyH_take (i := 5) (v := (.slice (some ⟨b, off, none⟩) n cap)) (op_at rfl) (by kernel_rfl) (by kernel_rfl) (by kernel_rfl) (fun _ _ _ h => h) (Or.inl ⟨rfl, fun w hSw => ?_⟩) (by assumption) ?_
            · (try dsimp only at hSw); go_simp; try with_reducible rfl
            (try simp only [Act.put, List.setIfInBounds_toArray, List.set_cons_zero, List.set_cons_succ])
            refine wpAnyH_take (i := 6) (v := (.int .i64 (i : Int))) (op_at rfl) (by kernel_rfl) (by kernel_rfl) (by kernel_rfl) (fun _ _ _ h => h) (Or.inl ⟨rfl, fun w hSw => ?_⟩) (by assumption) ?_
            · (try dsimp only at hSw); go_simp; try with_reducible rfl
            (try simp only [Act.put, List.setIfInBounds_toArray, List.set_cons_zero, List.set_cons_succ])
            refine wpAnyH_take (i := 7) (v := (.pointer (some ⟨b, off + i * 3, none⟩))) (op_at rfl) (by kernel_rfl) (by kernel_rfl) (by kernel_rfl) (fun _ _ _ h => h) (Or.inl ⟨rfl, fun w hSw => ?_⟩) (by assumption) ?_
            · (try dsimp only at hSw); go_simp; try with_reducible rfl
            (try simp only [Act.put, List.setIfInBounds_toArray, List.set_cons_zero, List.set_cons_succ])
            refine wpAnyH_take (i := 8) (v := (.pointer (some ⟨b, off + i * 3 + 1, none⟩))) (op_at rfl) (by kernel_rfl) (by kernel_rfl) (by kernel_rfl) (fun _ _ _ h => h) (Or.inl ⟨rfl, fun w hSw => ?_⟩) (by assumption) ?_
            · (try dsimp only at hSw); go_simp; try with_reducible rfl
            (try simp only [Act.put, List.setIfInBounds_toArray, List.set_cons_zero, List.set_cons_succ])
            refine wpAnyH_take (i := 9) (v := (.string xb)) (op_at rfl) (by kernel_rfl) (by kernel_rfl) (by kernel_rfl) (fun _ _ _ h => h) (Or.inl ⟨rfl, fun w hSw => ?_⟩) (by assumption) ?_
            · (try dsimp only at hSw); go_simp; try with_reducible rfl
            (try simp only [Act.put, List.setIfInBounds_toArray, List.set_cons_zero, List.set_cons_succ])
            refine wpAnyH_ready (rs := [10]) (by kernel_rfl) (by simp) (AllReadyH.cons (op_at rfl) (fun K hK => ?_) AllReadyH.nil)
            go_simp
            obtain ⟨V1, hV1, gV, n0, n1⟩ := box2 V (.string xa) (.string xb) 9
            rw [hV1]
            have hSB : V1.heap.size = V.heap.size + 1 := by rw [← hV1]; simp
            have HOV1 : Hid (V1.ownsRow w.heap.size 9 1 u4 S0.length (nmC S0)) := own_kept HOV.out gV
            have HLT : Hid (∀ q, u4.ownBlock = some q → q < V.heap.size) := fun q hq => (own_in HOV.out hq).1
            clear hV1
            replace a0 := gV.cell a0
            replace a1 := gV.cell a1
            replace a2 := gV.cell a2
            have HG1 : Hid (Gr w V1) := HGV.out.trans gV
            have HSB := Lib.hid hSB
            clear gV hSB
            refine hK.out _ _ ⟨a0, a1, a2⟩ (fun hHeld => ?_)
            clear hK K
            (try simp only [Act.put, List.setIfInBounds_toArray, List.set_cons_zero, List.set_cons_succ])
            refine wpAnyH_take (i := 11) (v := (.slice (some ⟨V.heap.size, 0, none⟩) 2 2)) (op_at rfl) (by kernel_rfl) (by kernel_rfl) (by kernel_rfl) (fun _ _ _ h => h) (Or.inl ⟨rfl, fun w hSw => ?_⟩) (by assumption) ?_
            · (try dsimp only at hSw); go_simp; try with_reducible rfl
            (try simp only [Act.put, List.setIfInBounds_toArray, List.set_cons_zero, List.set_cons_succ])
            refine wpAnyH_done (by kernel_rfl) ?_ _
            clear hHeld HOV HGV
            generalize V.heap.size = Bn at *
            go_wp2_with fail
            rcases HA with ⟨ha, ha2⟩ | ⟨ha, ha2⟩ <;> rcases HB with ⟨hb, hb2⟩ | ⟨hb, hb2⟩
            · refine wp_loop_rounds 3 ?_
              rw [rounds_succ]
              go_wp2_with fail
              rw [rounds_succ]
              go_wp2_with fail
              rw [rounds_succ]
              go_wp2_with fail
              refine wp_loop_rounds 3 ?_
              rw [rounds_succ]
              go_wp2_with fail
              rw [rounds_succ]
              go_wp2_with fail
              rw [rounds_succ]
              go_wp2_with fail
              refine (HOU.out _).mono ?_
              rintro e w9 ⟨rfl, rfl⟩
              rcases HO3.out with ho | ho
              · rw [ho]
                go_wp2_with fail
                have c1v : c1 = false := by rw [HC1.out]; rw [ha2, hb2]; first | rfl | (cases decide (Nm xb) <;> rfl)
                have c2v : c2 = false := by rw [HC2.out]; rw [ha2, HEA.out ha2, HEB.out hb2]; cases (xa.toList == xb.toList) <;> rfl
                have HZ : Hid (raE l i ⟨xa, xb, xw⟩ = 3) := by rw [Hid, HE0.out, c1v, c2v, ho]; rfl
                have HR : Hid (racesE l = 3) := by rw [Hid, HE.out, ← HF.out, errG_step hlt HX.out, HZ.out]; rfl
                go_wp2_with fail
                go_ret
                exact ⟨by rw [HR.out]; rfl, HG1.out⟩
              rw [ho]
              go_wp2_with fail
              have HWV : Hid (walkW xa xb = 3) := by rw [Hid, HWW, if_pos ha, if_pos hb]
              clear HWW
              by_cases hw : xw = 3
              · have gd := (Gr.refl V1).drew
                refine wp_region_held_drew (S := (fun w' => w'.cell? ⟨b, off + i * 3, none⟩ = some (.string xa) ∧ w'.cell? ⟨b, off + i * 3 + 1, none⟩ = some (.string xb) ∧ w'.cell? ⟨b, off + i * 3 + 2, none⟩ = some (.int .i64 xw))) (by kernel_rfl) ⟨gd.cell a0, gd.cell a1, gd.cell a2⟩ (fun hHeld => ?_)
                replace a0 := gd.cell a0
                replace a1 := gd.cell a1
                replace a2 := gd.cell a2
                refine wpAnyH_take (i := 0) (v := (.slice (some ⟨b, off, none⟩) n cap)) (op_at rfl) (by kernel_rfl) (by kernel_rfl) (by kernel_rfl) (fun _ _ _ h => h) (Or.inl ⟨rfl, fun w hSw => ?_⟩) (by assumption) ?_
                · (try dsimp only at hSw); go_simp; try with_reducible rfl
                (try simp only [Act.put, List.setIfInBounds_toArray, List.set_cons_zero, List.set_cons_succ])
                refine wpAnyH_take (i := 1) (v := (.int .i64 (i : Int))) (op_at rfl) (by kernel_rfl) (by kernel_rfl) (by kernel_rfl) (fun _ _ _ h => h) (Or.inl ⟨rfl, fun w hSw => ?_⟩) (by assumption) ?_
                · (try dsimp only at hSw); go_simp; try with_reducible rfl
                (try simp only [Act.put, List.setIfInBounds_toArray, List.set_cons_zero, List.set_cons_succ])
                refine wpAnyH_take (i := 2) (v := (.pointer (some ⟨b, off + i * 3, none⟩))) (op_at rfl) (by kernel_rfl) (by kernel_rfl) (by kernel_rfl) (fun _ _ _ h => h) (Or.inl ⟨rfl, fun w hSw => ?_⟩) (by assumption) ?_
                · (try dsimp only at hSw); go_simp; try with_reducible rfl
                (try simp only [Act.put, List.setIfInBounds_toArray, List.set_cons_zero, List.set_cons_succ])
                refine wpAnyH_take (i := 3) (v := (.pointer (some ⟨b, off + i * 3, none⟩))) (op_at rfl) (by kernel_rfl) (by kernel_rfl) (by kernel_rfl) (fun _ _ _ h => h) (Or.inl ⟨rfl, fun w hSw => ?_⟩) (by assumption) ?_
                · (try dsimp only at hSw); go_simp; try with_reducible rfl
                (try simp only [Act.put, List.setIfInBounds_toArray, List.set_cons_zero, List.set_cons_succ])
                refine wpAnyH_take (i := 4) (v := (.string xa)) (op_at rfl) (by kernel_rfl) (by kernel_rfl) (by kernel_rfl) (fun _ _ _ h => h) (Or.inl ⟨rfl, fun w hSw => ?_⟩) (by assumption) ?_
                · (try dsimp only at hSw); go_simp; try with_reducible rfl
                (try simp only [Act.put, List.setIfInBounds_toArray, List.set_cons_zero, List.set_cons_succ])
                refine wpAnyH_take (i := 5) (v := (.slice (some ⟨b, off, none⟩) n cap)) (op_at rfl) (by kernel_rfl) (by kernel_rfl) (by kernel_rfl) (fun _ _ _ h => h) (Or.inl ⟨rfl, fun w hSw => ?_⟩) (by assumption) ?_
                · (try dsimp only at hSw); go_simp; try with_reducible rfl
                (try simp only [Act.put, List.setIfInBounds_toArray, List.set_cons_zero, List.set_cons_succ])
                refine wpAnyH_take (i := 6) (v := (.int .i64 (i : Int))) (op_at rfl) (by kernel_rfl) (by kernel_rfl) (by kernel_rfl) (fun _ _ _ h => h) (Or.inl ⟨rfl, fun w hSw => ?_⟩) (by assumption) ?_
                · (try dsimp only at hSw); go_simp; try with_reducible rfl
                (try simp only [Act.put, List.setIfInBounds_toArray, List.set_cons_zero, List.set_cons_succ])
                refine wpAnyH_take (i := 7) (v := (.pointer (some ⟨b, off + i * 3, none⟩))) (op_at rfl) (by kernel_rfl) (by kernel_rfl) (by kernel_rfl) (fun _ _ _ h => h) (Or.inl ⟨rfl, fun w hSw => ?_⟩) (by assumption) ?_
                · (try dsimp only at hSw); go_simp; try with_reducible rfl
                (try simp only [Act.put, List.setIfInBounds_toArray, List.set_cons_zero, List.set_cons_succ])
                refine wpAnyH_take (i := 8) (v := (.pointer (some ⟨b, off + i * 3 + 1, none⟩))) (op_at rfl) (by kernel_rfl) (by kernel_rfl) (by kernel_rfl) (fun _ _ _ h => h) (Or.inl ⟨rfl, fun w hSw => ?_⟩) (by assumption) ?_
                · (try dsimp only at hSw); go_simp; try with_reducible rfl
                (try simp only [Act.put, List.setIfInBounds_toArray, List.set_cons_zero, List.set_cons_succ])
                refine wpAnyH_take (i := 9) (v := (.string xb)) (op_at rfl) (by kernel_rfl) (by kernel_rfl) (by kernel_rfl) (fun _ _ _ h => h) (Or.inl ⟨rfl, fun w hSw => ?_⟩) (by assumption) ?_
                · (try dsimp only at hSw); go_simp; try with_reducible rfl
                (try simp only [Act.put, List.setIfInBounds_toArray, List.set_cons_zero, List.set_cons_succ])
                refine wpAnyH_ready (rs := [10]) (by kernel_rfl) (by simp) (AllReadyH.cons (op_at rfl) (fun K hK => ?_) AllReadyH.nil)
                go_simp
                ((refine (HWK.out _).mono ?_); rintro e w9 ⟨rfl, rfl⟩; rw [HWV.out])
                go_wp2_with fail
                refine hK.out _ _ ⟨a0, a1, a2⟩ (fun hHeld => ?_)
                clear hK K
                (try simp only [Act.put, List.setIfInBounds_toArray, List.set_cons_zero, List.set_cons_succ])
                refine wpAnyH_take (i := 11) (v := (.bool true)) (op_at rfl) (by kernel_rfl) (by kernel_rfl) (by kernel_rfl) (fun _ _ _ h => h) (Or.inl ⟨rfl, fun w hSw => ?_⟩) (by assumption) ?_
                · (try dsimp only at hSw); go_simp; try with_reducible rfl
                (try simp only [Act.put, List.setIfInBounds_toArray, List.set_cons_zero, List.set_cons_succ])
                refine wpAnyH_take (i := 12) (v := (.bool true)) (op_at rfl) (by kernel_rfl) (by kernel_rfl) (by kernel_rfl) (fun _ _ _ h => h) (Or.inl ⟨rfl, fun w hSw => ?_⟩) (by assumption) ?_
                · (try dsimp only at hSw); go_simp; try with_reducible rfl
                (try simp only [Act.put, List.setIfInBounds_toArray, List.set_cons_zero, List.set_cons_succ])
                refine wpAnyH_take (i := 13) (v := (.slice (some ⟨b, off, none⟩) n cap)) (op_at rfl) (by kernel_rfl) (by kernel_rfl) (by kernel_rfl) (fun _ _ _ h => h) (Or.inl ⟨rfl, fun w hSw => ?_⟩) (by assumption) ?_
                · (try dsimp only at hSw); go_simp; try with_reducible rfl
                (try simp only [Act.put, List.setIfInBounds_toArray, List.set_cons_zero, List.set_cons_succ])
                refine wpAnyH_take (i := 14) (v := (.int .i64 (i : Int))) (op_at rfl) (by kernel_rfl) (by kernel_rfl) (by kernel_rfl) (fun _ _ _ h => h) (Or.inl ⟨rfl, fun w hSw => ?_⟩) (by assumption) ?_
                · (try dsimp only at hSw); go_simp; try with_reducible rfl
                (try simp only [Act.put, List.setIfInBounds_toArray, List.set_cons_zero, List.set_cons_succ])
                refine wpAnyH_take (i := 15) (v := (.pointer (some ⟨b, off + i * 3, none⟩))) (op_at rfl) (by kernel_rfl) (by kernel_rfl) (by kernel_rfl) (fun _ _ _ h => h) (Or.inl ⟨rfl, fun w hSw => ?_⟩) (by assumption) ?_
                · (try dsimp only at hSw); go_simp; try with_reducible rfl
                (try simp only [Act.put, List.setIfInBounds_toArray, List.set_cons_zero, List.set_cons_succ])
                refine wpAnyH_take (i := 16) (v := (.pointer (some ⟨b, off + i * 3 + 2, none⟩))) (op_at rfl) (by kernel_rfl) (by kernel_rfl) (by kernel_rfl) (fun _ _ _ h => h) (Or.inl ⟨rfl, fun w hSw => ?_⟩) (by assumption) ?_
                · (try dsimp only at hSw); go_simp; try with_reducible rfl
                (try simp only [Act.put, List.setIfInBounds_toArray, List.set_cons_zero, List.set_cons_succ])
                refine wpAnyH_take (i := 17) (v := (.int .i64 xw)) (op_at rfl) (by kernel_rfl) (by kernel_rfl) (by kernel_rfl) (fun _ _ _ h => h) (Or.inl ⟨rfl, fun w hSw => ?_⟩) (by assumption) ?_
                · (try dsimp only at hSw); go_simp; try with_reducible rfl
                (try simp only [Act.put, List.setIfInBounds_toArray, List.set_cons_zero, List.set_cons_succ])
                refine wpAnyH_take (i := 18) (v := (.slice (some ⟨b, off, none⟩) n cap)) (op_at rfl) (by kernel_rfl) (by kernel_rfl) (by kernel_rfl) (fun _ _ _ h => h) (Or.inl ⟨rfl, fun w hSw => ?_⟩) (by assumption) ?_
                · (try dsimp only at hSw); go_simp; try with_reducible rfl
                (try simp only [Act.put, List.setIfInBounds_toArray, List.set_cons_zero, List.set_cons_succ])
                refine wpAnyH_take (i := 19) (v := (.int .i64 (i : Int))) (op_at rfl) (by kernel_rfl) (by kernel_rfl) (by kernel_rfl) (fun _ _ _ h => h) (Or.inl ⟨rfl, fun w hSw => ?_⟩) (by assumption) ?_
                · (try dsimp only at hSw); go_simp; try with_reducible rfl
                (try simp only [Act.put, List.setIfInBounds_toArray, List.set_cons_zero, List.set_cons_succ])
                refine wpAnyH_take (i := 20) (v := (.pointer (some ⟨b, off + i * 3, none⟩))) (op_at rfl) (by kernel_rfl) (by kernel_rfl) (by kernel_rfl) (fun _ _ _ h => h) (Or.inl ⟨rfl, fun w hSw => ?_⟩) (by assumption) ?_
                · (try dsimp only at hSw); go_simp; try with_reducible rfl
                (try simp only [Act.put, List.setIfInBounds_toArray, List.set_cons_zero, List.set_cons_succ])
                refine wpAnyH_take (i := 21) (v := (.pointer (some ⟨b, off + i * 3, none⟩))) (op_at rfl) (by kernel_rfl) (by kernel_rfl) (by kernel_rfl) (fun _ _ _ h => h) (Or.inl ⟨rfl, fun w hSw => ?_⟩) (by assumption) ?_
                · (try dsimp only at hSw); go_simp; try with_reducible rfl
                (try simp only [Act.put, List.setIfInBounds_toArray, List.set_cons_zero, List.set_cons_succ])
                refine wpAnyH_take (i := 22) (v := (.string xa)) (op_at rfl) (by kernel_rfl) (by kernel_rfl) (by kernel_rfl) (fun _ _ _ h => h) (Or.inl ⟨rfl, fun w hSw => ?_⟩) (by assumption) ?_
                · (try dsimp only at hSw); go_simp; try with_reducible rfl
                (try simp only [Act.put, List.setIfInBounds_toArray, List.set_cons_zero, List.set_cons_succ])
                refine wpAnyH_take (i := 23) (v := (.slice (some ⟨b, off, none⟩) n cap)) (op_at rfl) (by kernel_rfl) (by kernel_rfl) (by kernel_rfl) (fun _ _ _ h => h) (Or.inl ⟨rfl, fun w hSw => ?_⟩) (by assumption) ?_
                · (try dsimp only at hSw); go_simp; try with_reducible rfl
                (try simp only [Act.put, List.setIfInBounds_toArray, List.set_cons_zero, List.set_cons_succ])
                refine wpAnyH_take (i := 24) (v := (.int .i64 (i : Int))) (op_at rfl) (by kernel_rfl) (by kernel_rfl) (by kernel_rfl) (fun _ _ _ h => h) (Or.inl ⟨rfl, fun w hSw => ?_⟩) (by assumption) ?_
                · (try dsimp only at hSw); go_simp; try with_reducible rfl
                (try simp only [Act.put, List.setIfInBounds_toArray, List.set_cons_zero, List.set_cons_succ])
                refine wpAnyH_take (i := 25) (v := (.pointer (some ⟨b, off + i * 3, none⟩))) (op_at rfl) (by kernel_rfl) (by kernel_rfl) (by kernel_rfl) (fun _ _ _ h => h) (Or.inl ⟨rfl, fun w hSw => ?_⟩) (by assumption) ?_
                · (try dsimp only at hSw); go_simp; try with_reducible rfl
                (try simp only [Act.put, List.setIfInBounds_toArray, List.set_cons_zero, List.set_cons_succ])
                refine wpAnyH_take (i := 26) (v := (.pointer (some ⟨b, off + i * 3 + 1, none⟩))) (op_at rfl) (by kernel_rfl) (by kernel_rfl) (by kernel_rfl) (fun _ _ _ h => h) (Or.inl ⟨rfl, fun w hSw => ?_⟩) (by assumption) ?_
                · (try dsimp only at hSw); go_simp; try with_reducible rfl
                (try simp only [Act.put, List.setIfInBounds_toArray, List.set_cons_zero, List.set_cons_succ])
                refine wpAnyH_take (i := 27) (v := (.string xb)) (op_at rfl) (by kernel_rfl) (by kernel_rfl) (by kernel_rfl) (fun _ _ _ h => h) (Or.inl ⟨rfl, fun w hSw => ?_⟩) (by assumption) ?_
                · (try dsimp only at hSw); go_simp; try with_reducible rfl
                (try simp only [Act.put, List.setIfInBounds_toArray, List.set_cons_zero, List.set_cons_succ])
                refine wpAnyH_ready (rs := [28]) (by kernel_rfl) (by simp) (AllReadyH.cons (op_at rfl) (fun K hK => ?_) AllReadyH.nil)
                go_simp
                ((refine (HWK.out _).mono ?_); rintro e w9 ⟨rfl, rfl⟩; rw [HWV.out])
                go_wp2_with fail
                refine hK.out _ _ ⟨a0, a1, a2⟩ (fun hHeld => ?_)
                clear hK K
                (try simp only [Act.put, List.setIfInBounds_toArray, List.set_cons_zero, List.set_cons_succ])
                refine wpAnyH_take (i := 29) (v := (.bool false)) (op_at rfl) (by kernel_rfl) (by kernel_rfl) (by kernel_rfl) (fun _ _ _ h => h) (Or.inl ⟨rfl, fun w hSw => ?_⟩) (by assumption) ?_
                · (try dsimp only at hSw); go_simp; try with_reducible rfl
                (try simp only [Act.put, List.setIfInBounds_toArray, List.set_cons_zero, List.set_cons_succ])
                refine wpAnyH_take (i := 30) (v := (.bool false)) (op_at rfl) (by kernel_rfl) (by kernel_rfl) (by kernel_rfl) (fun _ _ _ h => h) (Or.inl ⟨rfl, fun w hSw => ?_⟩) (by assumption) ?_
                · (try dsimp only at hSw); go_simp; try with_reducible rfl
                (try simp only [Act.put, List.setIfInBounds_toArray, List.set_cons_zero, List.set_cons_succ])
                refine wpAnyH_done (by kernel_rfl) ?_ _
                clear hHeld
                go_wp2_with fail
                have c1v : c1 = false := by rw [HC1.out]; rw [ha2, hb2]; first | rfl | (cases decide (Nm xb) <;> rfl)
                have c2v : c2 = false := by rw [HC2.out]; rw [ha2, HEA.out ha2, HEB.out hb2]; cases (xa.toList == xb.toList) <;> rfl
                have c4v : c4 = false := by rw [HC4.out]; rw [HWV.out, hw]; rfl
                have HZ : Hid (raE l i ⟨xa, xb, xw⟩ = 0) := by rw [Hid, HE0.out, c1v, c2v, c4v, ho]; rfl
                have HSX : Hid (nmsL (l.take (i + 1)) = S0) := by
                  rw [Hid, HTK.out, show nmsR ⟨xa, xb, xw⟩ = [] from by unfold nmsR; rw [if_pos ha, if_pos hb]; rfl]
                  try (first | rfl | simp)
                have HF2 : Hid (errG (raE l) l (n - (i + 1)) (i + 1) = errG (raE l) l n 0) := by rw [Hid, ← HF.out, errG_step hlt HX.out, HZ.out, if_pos rfl]
                go_roundg (gk - 1)
                case measure => omega
                case rel => exact ⟨i + 1, by go_num, by omega, by rw [HSX.out]; exact HOV1.out.drew, HG1.out.drew, HF2⟩
              · have gd := (Gr.refl V1).drew
                refine wp_region_held_drew (S := (fun w' => w'.cell? ⟨b, off + i * 3, none⟩ = some (.string xa) ∧ w'.cell? ⟨b, off + i * 3 + 1, none⟩ = some (.string xb) ∧ w'.cell? ⟨b, off + i * 3 + 2, none⟩ = some (.int .i64 xw))) (by kernel_rfl) ⟨gd.cell a0, gd.cell a1, gd.cell a2⟩ (fun hHeld => ?_)
                replace a0 := gd.cell a0
                replace a1 := gd.cell a1
                replace a2 := gd.cell a2
                refine wpAnyH_take (i := 0) (v := (.slice (some ⟨b, off, none⟩) n cap)) (op_at rfl) (by kernel_rfl) (by kernel_rfl) (by kernel_rfl) (fun _ _ _ h => h) (Or.inl ⟨rfl, fun w hSw => ?_⟩) (by assumption) ?_
                · (try dsimp only at hSw); go_simp; try with_reducible rfl
                (try simp only [Act.put, List.setIfInBounds_toArray, List.set_cons_zero, List.set_cons_succ])
                refine wpAnyH_take (i := 1) (v := (.int .i64 (i : Int))) (op_at rfl) (by kernel_rfl) (by kernel_rfl) (by kernel_rfl) (fun _ _ _ h => h) (Or.inl ⟨rfl, fun w hSw => ?_⟩) (by assumption) ?_
                · (try dsimp only at hSw); go_simp; try with_reducible rfl
                (try simp only [Act.put, List.setIfInBounds_toArray, List.set_cons_zero, List.set_cons_succ])
                refine wpAnyH_take (i := 2) (v := (.pointer (some ⟨b, off + i * 3, none⟩))) (op_at rfl) (by kernel_rfl) (by kernel_rfl) (by kernel_rfl) (fun _ _ _ h => h) (Or.inl ⟨rfl, fun w hSw => ?_⟩) (by assumption) ?_
                · (try dsimp only at hSw); go_simp; try with_reducible rfl
                (try simp only [Act.put, List.setIfInBounds_toArray, List.set_cons_zero, List.set_cons_succ])
                refine wpAnyH_take (i := 3) (v := (.pointer (some ⟨b, off + i * 3, none⟩))) (op_at rfl) (by kernel_rfl) (by kernel_rfl) (by kernel_rfl) (fun _ _ _ h => h) (Or.inl ⟨rfl, fun w hSw => ?_⟩) (by assumption) ?_
                · (try dsimp only at hSw); go_simp; try with_reducible rfl
                (try simp only [Act.put, List.setIfInBounds_toArray, List.set_cons_zero, List.set_cons_succ])
                refine wpAnyH_take (i := 4) (v := (.string xa)) (op_at rfl) (by kernel_rfl) (by kernel_rfl) (by kernel_rfl) (fun _ _ _ h => h) (Or.inl ⟨rfl, fun w hSw => ?_⟩) (by assumption) ?_
                · (try dsimp only at hSw); go_simp; try with_reducible rfl
                (try simp only [Act.put, List.setIfInBounds_toArray, List.set_cons_zero, List.set_cons_succ])
                refine wpAnyH_take (i := 5) (v := (.slice (some ⟨b, off, none⟩) n cap)) (op_at rfl) (by kernel_rfl) (by kernel_rfl) (by kernel_rfl) (fun _ _ _ h => h) (Or.inl ⟨rfl, fun w hSw => ?_⟩) (by assumption) ?_
                · (try dsimp only at hSw); go_simp; try with_reducible rfl
                (try simp only [Act.put, List.setIfInBounds_toArray, List.set_cons_zero, List.set_cons_succ])
                refine wpAnyH_take (i := 6) (v := (.int .i64 (i : Int))) (op_at rfl) (by kernel_rfl) (by kernel_rfl) (by kernel_rfl) (fun _ _ _ h => h) (Or.inl ⟨rfl, fun w hSw => ?_⟩) (by assumption) ?_
                · (try dsimp only at hSw); go_simp; try with_reducible rfl
                (try simp only [Act.put, List.setIfInBounds_toArray, List.set_cons_zero, List.set_cons_succ])
                refine wpAnyH_take (i := 7) (v := (.pointer (some ⟨b, off + i * 3, none⟩))) (op_at rfl) (by kernel_rfl) (by kernel_rfl) (by kernel_rfl) (fun _ _ _ h => h) (Or.inl ⟨rfl, fun w hSw => ?_⟩) (by assumption) ?_
                · (try dsimp only at hSw); go_simp; try with_reducible rfl
                (try simp only [Act.put, List.setIfInBounds_toArray, List.set_cons_zero, List.set_cons_succ])
                refine wpAnyH_take (i := 8) (v := (.pointer (some ⟨b, off + i * 3 + 1, none⟩))) (op_at rfl) (by kernel_rfl) (by kernel_rfl) (by kernel_rfl) (fun _ _ _ h => h) (Or.inl ⟨rfl, fun w hSw => ?_⟩) (by assumption) ?_
                · (try dsimp only at hSw); go_simp; try with_reducible rfl
                (try simp only [Act.put, List.setIfInBounds_toArray, List.set_cons_zero, List.set_cons_succ])
                refine wpAnyH_take (i := 9) (v := (.string xb)) (op_at rfl) (by kernel_rfl) (by kernel_rfl) (by kernel_rfl) (fun _ _ _ h => h) (Or.inl ⟨rfl, fun w hSw => ?_⟩) (by assumption) ?_
                · (try dsimp only at hSw); go_simp; try with_reducible rfl
                (try simp only [Act.put, List.setIfInBounds_toArray, List.set_cons_zero, List.set_cons_succ])
                refine wpAnyH_ready (rs := [10]) (by kernel_rfl) (by simp) (AllReadyH.cons (op_at rfl) (fun K hK => ?_) AllReadyH.nil)
                go_simp
                ((refine (HWK.out _).mono ?_); rintro e w9 ⟨rfl, rfl⟩; rw [HWV.out])
                go_wp2_with fail
                refine hK.out _ _ ⟨a0, a1, a2⟩ (fun hHeld => ?_)
                clear hK K
                (try simp only [Act.put, List.setIfInBounds_toArray, List.set_cons_zero, List.set_cons_succ])
                refine wpAnyH_take (i := 11) (v := (.bool true)) (op_at rfl) (by kernel_rfl) (by kernel_rfl) (by kernel_rfl) (fun _ _ _ h => h) (Or.inl ⟨rfl, fun w hSw => ?_⟩) (by assumption) ?_
                · (try dsimp only at hSw); go_simp; try with_reducible rfl
                (try simp only [Act.put, List.setIfInBounds_toArray, List.set_cons_zero, List.set_cons_succ])
                refine wpAnyH_take (i := 12) (v := (.bool true)) (op_at rfl) (by kernel_rfl) (by kernel_rfl) (by kernel_rfl) (fun _ _ _ h => h) (Or.inl ⟨rfl, fun w hSw => ?_⟩) (by assumption) ?_
                · (try dsimp only at hSw); go_simp; try with_reducible rfl
                (try simp only [Act.put, List.setIfInBounds_toArray, List.set_cons_zero, List.set_cons_succ])
                refine wpAnyH_take (i := 13) (v := (.slice (some ⟨b, off, none⟩) n cap)) (op_at rfl) (by kernel_rfl) (by kernel_rfl) (by kernel_rfl) (fun _ _ _ h => h) (Or.inl ⟨rfl, fun w hSw => ?_⟩) (by assumption) ?_
                · (try dsimp only at hSw); go_simp; try with_reducible rfl
                (try simp only [Act.put, List.setIfInBounds_toArray, List.set_cons_zero, List.set_cons_succ])
                refine wpAnyH_take (i := 14) (v := (.int .i64 (i : Int))) (op_at rfl) (by kernel_rfl) (by kernel_rfl) (by kernel_rfl) (fun _ _ _ h => h) (Or.inl ⟨rfl, fun w hSw => ?_⟩) (by assumption) ?_
                · (try dsimp only at hSw); go_simp; try with_reducible rfl
                (try simp only [Act.put, List.setIfInBounds_toArray, List.set_cons_zero, List.set_cons_succ])
                refine wpAnyH_take (i := 15) (v := (.pointer (some ⟨b, off + i * 3, none⟩))) (op_at rfl) (by kernel_rfl) (by kernel_rfl) (by kernel_rfl) (fun _ _ _ h => h) (Or.inl ⟨rfl, fun w hSw => ?_⟩) (by assumption) ?_
                · (try dsimp only at hSw); go_simp; try with_reducible rfl
                (try simp only [Act.put, List.setIfInBounds_toArray, List.set_cons_zero, List.set_cons_succ])
                refine wpAnyH_take (i := 16) (v := (.pointer (some ⟨b, off + i * 3 + 2, none⟩))) (op_at rfl) (by kernel_rfl) (by kernel_rfl) (by kernel_rfl) (fun _ _ _ h => h) (Or.inl ⟨rfl, fun w hSw => ?_⟩) (by assumption) ?_
                · (try dsimp only at hSw); go_simp; try with_reducible rfl
                (try simp only [Act.put, List.setIfInBounds_toArray, List.set_cons_zero, List.set_cons_succ])
                refine wpAnyH_take (i := 17) (v := (.int .i64 xw)) (op_at rfl) (by kernel_rfl) (by kernel_rfl) (by kernel_rfl) (fun _ _ _ h => h) (Or.inl ⟨rfl, fun w hSw => ?_⟩) (by assumption) ?_
                · (try dsimp only at hSw); go_simp; try with_reducible rfl
                (try simp only [Act.put, List.setIfInBounds_toArray, List.set_cons_zero, List.set_cons_succ])
                refine wpAnyH_take (i := 18) (v := (.slice (some ⟨b, off, none⟩) n cap)) (op_at rfl) (by kernel_rfl) (by kernel_rfl) (by kernel_rfl) (fun _ _ _ h => h) (Or.inl ⟨rfl, fun w hSw => ?_⟩) (by assumption) ?_
                · (try dsimp only at hSw); go_simp; try with_reducible rfl
                (try simp only [Act.put, List.setIfInBounds_toArray, List.set_cons_zero, List.set_cons_succ])
                refine wpAnyH_take (i := 19) (v := (.int .i64 (i : Int))) (op_at rfl) (by kernel_rfl) (by kernel_rfl) (by kernel_rfl) (fun _ _ _ h => h) (Or.inl ⟨rfl, fun w hSw => ?_⟩) (by assumption) ?_
                · (try dsimp only at hSw); go_simp; try with_reducible rfl
                (try simp only [Act.put, List.setIfInBounds_toArray, List.set_cons_zero, List.set_cons_succ])
                refine wpAnyH_take (i := 20) (v := (.pointer (some ⟨b, off + i * 3, none⟩))) (op_at rfl) (by kernel_rfl) (by kernel_rfl) (by kernel_rfl) (fun _ _ _ h => h) (Or.inl ⟨rfl, fun w hSw => ?_⟩) (by assumption) ?_
                · (try dsimp only at hSw); go_simp; try with_reducible rfl
                (try simp only [Act.put, List.setIfInBounds_toArray, List.set_cons_zero, List.set_cons_succ])
                refine wpAnyH_take (i := 21) (v := (.pointer (some ⟨b, off + i * 3, none⟩))) (op_at rfl) (by kernel_rfl) (by kernel_rfl) (by kernel_rfl) (fun _ _ _ h => h) (Or.inl ⟨rfl, fun w hSw => ?_⟩) (by assumption) ?_
                · (try dsimp only at hSw); go_simp; try with_reducible rfl
                (try simp only [Act.put, List.setIfInBounds_toArray, List.set_cons_zero, List.set_cons_succ])
                refine wpAnyH_take (i := 22) (v := (.string xa)) (op_at rfl) (by kernel_rfl) (by kernel_rfl) (by kernel_rfl) (fun _ _ _ h => h) (Or.inl ⟨rfl, fun w hSw => ?_⟩) (by assumption) ?_
                · (try dsimp only at hSw); go_simp; try with_reducible rfl
                (try simp only [Act.put, List.setIfInBounds_toArray, List.set_cons_zero, List.set_cons_succ])
                refine wpAnyH_take (i := 23) (v := (.slice (some ⟨b, off, none⟩) n cap)) (op_at rfl) (by kernel_rfl) (by kernel_rfl) (by kernel_rfl) (fun _ _ _ h => h) (Or.inl ⟨rfl, fun w hSw => ?_⟩) (by assumption) ?_
                · (try dsimp only at hSw); go_simp; try with_reducible rfl
                (try simp only [Act.put, List.setIfInBounds_toArray, List.set_cons_zero, List.set_cons_succ])
                refine wpAnyH_take (i := 24) (v := (.int .i64 (i : Int))) (op_at rfl) (by kernel_rfl) (by kernel_rfl) (by kernel_rfl) (fun _ _ _ h => h) (Or.inl ⟨rfl, fun w hSw => ?_⟩) (by assumption) ?_
                · (try dsimp only at hSw); go_simp; try with_reducible rfl
                (try simp only [Act.put, List.setIfInBounds_toArray, List.set_cons_zero, List.set_cons_succ])
                refine wpAnyH_take (i := 25) (v := (.pointer (some ⟨b, off + i * 3, none⟩))) (op_at rfl) (by kernel_rfl) (by kernel_rfl) (by kernel_rfl) (fun _ _ _ h => h) (Or.inl ⟨rfl, fun w hSw => ?_⟩) (by assumption) ?_
                · (try dsimp only at hSw); go_simp; try with_reducible rfl
                (try simp only [Act.put, List.setIfInBounds_toArray, List.set_cons_zero, List.set_cons_succ])
                refine wpAnyH_take (i := 26) (v := (.pointer (some ⟨b, off + i * 3 + 1, none⟩))) (op_at rfl) (by kernel_rfl) (by kernel_rfl) (by kernel_rfl) (fun _ _ _ h => h) (Or.inl ⟨rfl, fun w hSw => ?_⟩) (by assumption) ?_
                · (try dsimp only at hSw); go_simp; try with_reducible rfl
                (try simp only [Act.put, List.setIfInBounds_toArray, List.set_cons_zero, List.set_cons_succ])
                refine wpAnyH_take (i := 27) (v := (.string xb)) (op_at rfl) (by kernel_rfl) (by kernel_rfl) (by kernel_rfl) (fun _ _ _ h => h) (Or.inl ⟨rfl, fun w hSw => ?_⟩) (by assumption) ?_
                · (try dsimp only at hSw); go_simp; try with_reducible rfl
                (try simp only [Act.put, List.setIfInBounds_toArray, List.set_cons_zero, List.set_cons_succ])
                refine wpAnyH_ready (rs := [28]) (by kernel_rfl) (by simp) (AllReadyH.cons (op_at rfl) (fun K hK => ?_) AllReadyH.nil)
                go_simp
                ((refine (HWK.out _).mono ?_); rintro e w9 ⟨rfl, rfl⟩; rw [HWV.out])
                go_wp2_with fail
                refine hK.out _ _ ⟨a0, a1, a2⟩ (fun hHeld => ?_)
                clear hK K
                (try simp only [Act.put, List.setIfInBounds_toArray, List.set_cons_zero, List.set_cons_succ])
                refine wpAnyH_take (i := 29) (v := (.bool true)) (op_at rfl) (by kernel_rfl) (by kernel_rfl) (by kernel_rfl) (fun _ _ _ h => h) (Or.inl ⟨rfl, fun w hSw => ?_⟩) (by assumption) ?_
                · (try dsimp only at hSw); go_simp; try with_reducible rfl
                (try simp only [Act.put, List.setIfInBounds_toArray, List.set_cons_zero, List.set_cons_succ])
                refine wpAnyH_take (i := 30) (v := (.bool true)) (op_at rfl) (by kernel_rfl) (by kernel_rfl) (by kernel_rfl) (fun _ _ _ h => h) (Or.inl ⟨rfl, fun w hSw => ?_⟩) (by assumption) ?_
                · (try dsimp only at hSw); go_simp; try with_reducible rfl
                (try simp only [Act.put, List.setIfInBounds_toArray, List.set_cons_zero, List.set_cons_succ])
                refine wpAnyH_done (by kernel_rfl) ?_ _
                clear hHeld
                go_wp2_with fail
                have c1v : c1 = false := by rw [HC1.out]; rw [ha2, hb2]; first | rfl | (cases decide (Nm xb) <;> rfl)
                have c2v : c2 = false := by rw [HC2.out]; rw [ha2, HEA.out ha2, HEB.out hb2]; cases (xa.toList == xb.toList) <;> rfl
                have c4v : c4 = true := by rw [HC4.out]; rw [HWV.out, show (xw == 3) = false from beq_eq_false_iff_ne.2 hw]; rfl
                have HZ : Hid (raE l i ⟨xa, xb, xw⟩ = 19) := by rw [Hid, HE0.out, c1v, c2v, c4v, ho]; rfl
                have HR : Hid (racesE l = 19) := by rw [Hid, HE.out, ← HF.out, errG_step hlt HX.out, HZ.out]; rfl
                go_wp2_with fail
                go_ret
                exact ⟨by rw [HR.out]; rfl, HG1.out.drew⟩
            · refine wp_loop_rounds 3 ?_
              rw [rounds_succ]
              go_wp2_with fail
              rw [rounds_succ]
              go_wp2_with fail
              cases hp2 : decide (Nm xb)
              · have HQ := HN2.out V1
                rw [hp2] at HQ
                refine HQ.mono ?_
                rintro e w9 ⟨rfl, rfl⟩
                clear HQ
                go_wp2_with fail
                have c1v : c1 = true := by rw [HC1.out]; rw [ha2, hb2, hp2]; first | rfl | (cases decide (Nm xb) <;> rfl)
                have HZ : Hid (raE l i ⟨xa, xb, xw⟩ = 8) := by rw [Hid, HE0.out, c1v]; rfl
                have HR : Hid (racesE l = 8) := by rw [Hid, HE.out, ← HF.out, errG_step hlt HX.out, HZ.out]; rfl
                go_wp2_with fail
                go_ret
                exact ⟨by rw [HR.out]; rfl, HG1.out⟩
              have HQ := HN2.out V1
              rw [hp2] at HQ
              refine HQ.mono ?_
              rintro e w9 ⟨rfl, rfl⟩
              clear HQ
              go_wp2_with fail
              rw [rounds_succ]
              go_wp2_with fail
              refine wp_loop_rounds 3 ?_
              rw [rounds_succ]
              go_wp2_with fail
              rw [rounds_succ]
              go_wp2_with fail
              have HQ := refHas6_c (nmAts_of_own rfl HOV1.out) (by have := HLS.out; (try simp only [List.length_append, List.length_cons, List.length_nil]); omega) xb
              cases hh2 : hasS S0 xb
              rotate_left
              · rw [hh2] at HQ
                refine HQ.mono ?_
                rintro e w9 ⟨rfl, rfl⟩
                clear HQ
                go_wp2_with fail
                have c1v : c1 = false := by rw [HC1.out]; rw [ha2, hb2, hp2]; first | rfl | (cases decide (Nm xb) <;> rfl)
                have c2v : c2 = true := by rw [HC2.out]; rw [ha2, HEA.out ha2, hh2]; cases (xa.toList == xb.toList) <;> rfl
                have HZ : Hid (raE l i ⟨xa, xb, xw⟩ = 9) := by rw [Hid, HE0.out, c1v, c2v]; rfl
                have HR : Hid (racesE l = 9) := by rw [Hid, HE.out, ← HF.out, errG_step hlt HX.out, HZ.out]; rfl
                go_wp2_with fail
                go_ret
                exact ⟨by rw [HR.out]; rfl, HG1.out⟩
              rw [hh2] at HQ
              refine HQ.mono ?_
              rintro e w9 ⟨rfl, rfl⟩
              clear HQ
              have hA2 := HOV1.out.alloc (.cells #[.string xb] 9)
              go_wp2_with (at_builtin; refine wpList_append_own _ rfl _ _ 48 rfl w.heap.size 9 i0 (.string ⟨#[]⟩) 1 16 Tryz.underlying48 hi hz0 hz1 hz2 rfl (by decide) _ _ _ rfl hA2 ⟨V1.heap.size, 0, none⟩ 1 1 [.string xb] rfl rfl (cell_one6 _ _ _) (by intro u hu; simp at hu; subst hu; rfl) (by have := HLS.out; unfold maxLen; (try simp only [List.length_append, List.length_cons, List.length_nil]); omega) (by have := HLS.out; (try simp only [List.length_append, List.length_cons, List.length_nil]); omega) (by have := HG1.out.size; simp; omega) ?_; intro v2 V5 hown2 hgrow2 _)
              have HO2 : Hid (V5.ownsRow w.heap.size 9 1 v2 (S0 ++ [xb]).length (nmC (S0 ++ [xb]))) := by rw [nmC_add, List.length_append]; exact hown2
              have HG5 : Hid (Gr w V5) := Below.grown (HG1.out.alloc _) hgrow2 (by have := HG1.out.size; simp; omega) (fun q hq => (own_in HOV1.out hq).2)
              replace a0 := Gr.cell HG5.out B0.out
              replace a1 := Gr.cell HG5.out B1.out
              replace a2 := Gr.cell HG5.out B2.out
              clear hown2 hgrow2 hA2
              go_wp2_with fail
              rw [rounds_succ]
              go_wp2_with fail
              refine (HOU.out _).mono ?_
              rintro e w9 ⟨rfl, rfl⟩
              rcases HO3.out with ho | ho
              · rw [ho]
                go_wp2_with fail
                have c1v : c1 = false := by rw [HC1.out]; rw [ha2, hb2, hp2]; first | rfl | (cases decide (Nm xb) <;> rfl)
                have c2v : c2 = false := by rw [HC2.out]; rw [ha2, HEA.out ha2, hh2]; cases (xa.toList == xb.toList) <;> rfl
                have HZ : Hid (raE l i ⟨xa, xb, xw⟩ = 3) := by rw [Hid, HE0.out, c1v, c2v, ho]; rfl
                have HR : Hid (racesE l = 3) := by rw [Hid, HE.out, ← HF.out, errG_step hlt HX.out, HZ.out]; rfl
                go_wp2_with fail
                go_ret
                exact ⟨by rw [HR.out]; rfl, HG5.out⟩
              rw [ho]
              go_wp2_with fail
              have HWV : Hid (walkW xa xb = 2) := by rw [Hid, HWW, if_pos ha, if_neg hb]
              clear HWW
              by_cases hw : xw = 2
              · have gd := (Gr.refl V5).drew
                refine wp_region_held_drew (S := (fun w' => w'.cell? ⟨b, off + i * 3, none⟩ = some (.string xa) ∧ w'.cell? ⟨b, off + i * 3 + 1, none⟩ = some (.string xb) ∧ w'.cell? ⟨b, off + i * 3 + 2, none⟩ = some (.int .i64 xw))) (by kernel_rfl) ⟨gd.cell a0, gd.cell a1, gd.cell a2⟩ (fun hHeld => ?_)
                replace a0 := gd.cell a0
                replace a1 := gd.cell a1
                replace a2 := gd.cell a2
                refine wpAnyH_take (i := 0) (v := (.slice (some ⟨b, off, none⟩) n cap)) (op_at rfl) (by kernel_rfl) (by kernel_rfl) (by kernel_rfl) (fun _ _ _ h => h) (Or.inl ⟨rfl, fun w hSw => ?_⟩) (by assumption) ?_
                · (try dsimp only at hSw); go_simp; try with_reducible rfl
                (try simp only [Act.put, List.setIfInBounds_toArray, List.set_cons_zero, List.set_cons_succ])
                refine wpAnyH_take (i := 1) (v := (.int .i64 (i : Int))) (op_at rfl) (by kernel_rfl) (by kernel_rfl) (by kernel_rfl) (fun _ _ _ h => h) (Or.inl ⟨rfl, fun w hSw => ?_⟩) (by assumption) ?_
                · (try dsimp only at hSw); go_simp; try with_reducible rfl
                (try simp only [Act.put, List.setIfInBounds_toArray, List.set_cons_zero, List.set_cons_succ])
                refine wpAnyH_take (i := 2) (v := (.pointer (some ⟨b, off + i * 3, none⟩))) (op_at rfl) (by kernel_rfl) (by kernel_rfl) (by kernel_rfl) (fun _ _ _ h => h) (Or.inl ⟨rfl, fun w hSw => ?_⟩) (by assumption) ?_
                · (try dsimp only at hSw); go_simp; try with_reducible rfl
                (try simp only [Act.put, List.setIfInBounds_toArray, List.set_cons_zero, List.set_cons_succ])
                refine wpAnyH_take (i := 3) (v := (.pointer (some ⟨b, off + i * 3, none⟩))) (op_at rfl) (by kernel_rfl) (by kernel_rfl) (by kernel_rfl) (fun _ _ _ h => h) (Or.inl ⟨rfl, fun w hSw => ?_⟩) (by assumption) ?_
                · (try dsimp only at hSw); go_simp; try with_reducible rfl
                (try simp only [Act.put, List.setIfInBounds_toArray, List.set_cons_zero, List.set_cons_succ])
                refine wpAnyH_take (i := 4) (v := (.string xa)) (op_at rfl) (by kernel_rfl) (by kernel_rfl) (by kernel_rfl) (fun _ _ _ h => h) (Or.inl ⟨rfl, fun w hSw => ?_⟩) (by assumption) ?_
                · (try dsimp only at hSw); go_simp; try with_reducible rfl
                (try simp only [Act.put, List.setIfInBounds_toArray, List.set_cons_zero, List.set_cons_succ])
                refine wpAnyH_take (i := 5) (v := (.slice (some ⟨b, off, none⟩) n cap)) (op_at rfl) (by kernel_rfl) (by kernel_rfl) (by kernel_rfl) (fun _ _ _ h => h) (Or.inl ⟨rfl, fun w hSw => ?_⟩) (by assumption) ?_
                · (try dsimp only at hSw); go_simp; try with_reducible rfl
                (try simp only [Act.put, List.setIfInBounds_toArray, List.set_cons_zero, List.set_cons_succ])
                refine wpAnyH_take (i := 6) (v := (.int .i64 (i : Int))) (op_at rfl) (by kernel_rfl) (by kernel_rfl) (by kernel_rfl) (fun _ _ _ h => h) (Or.inl ⟨rfl, fun w hSw => ?_⟩) (by assumption) ?_
                · (try dsimp only at hSw); go_simp; try with_reducible rfl
                (try simp only [Act.put, List.setIfInBounds_toArray, List.set_cons_zero, List.set_cons_succ])
                refine wpAnyH_take (i := 7) (v := (.pointer (some ⟨b, off + i * 3, none⟩))) (op_at rfl) (by kernel_rfl) (by kernel_rfl) (by kernel_rfl) (fun _ _ _ h => h) (Or.inl ⟨rfl, fun w hSw => ?_⟩) (by assumption) ?_
                · (try dsimp only at hSw); go_simp; try with_reducible rfl
                (try simp only [Act.put, List.setIfInBounds_toArray, List.set_cons_zero, List.set_cons_succ])
                refine wpAnyH_take (i := 8) (v := (.pointer (some ⟨b, off + i * 3 + 1, none⟩))) (op_at rfl) (by kernel_rfl) (by kernel_rfl) (by kernel_rfl) (fun _ _ _ h => h) (Or.inl ⟨rfl, fun w hSw => ?_⟩) (by assumption) ?_
                · (try dsimp only at hSw); go_simp; try with_reducible rfl
                (try simp only [Act.put, List.setIfInBounds_toArray, List.set_cons_zero, List.set_cons_succ])
                refine wpAnyH_take (i := 9) (v := (.string xb)) (op_at rfl) (by kernel_rfl) (by kernel_rfl) (by kernel_rfl) (fun _ _ _ h => h) (Or.inl ⟨rfl, fun w hSw => ?_⟩) (by assumption) ?_
                · (try dsimp only at hSw); go_simp; try with_reducible rfl
                (try simp only [Act.put, List.setIfInBounds_toArray, List.set_cons_zero, List.set_cons_succ])
                refine wpAnyH_ready (rs := [10]) (by kernel_rfl) (by simp) (AllReadyH.cons (op_at rfl) (fun K hK => ?_) AllReadyH.nil)
                go_simp
                ((refine (HWK.out _).mono ?_); rintro e w9 ⟨rfl, rfl⟩; rw [HWV.out])
                go_wp2_with fail
                refine hK.out _ _ ⟨a0, a1, a2⟩ (fun hHeld => ?_)
                clear hK K
                (try simp only [Act.put, List.setIfInBounds_toArray, List.set_cons_zero, List.set_cons_succ])
                refine wpAnyH_take (i := 11) (v := (.bool true)) (op_at rfl) (by kernel_rfl) (by kernel_rfl) (by kernel_rfl) (fun _ _ _ h => h) (Or.inl ⟨rfl, fun w hSw => ?_⟩) (by assumption) ?_
                · (try dsimp only at hSw); go_simp; try with_reducible rfl
                (try simp only [Act.put, List.setIfInBounds_toArray, List.set_cons_zero, List.set_cons_succ])
                refine wpAnyH_take (i := 12) (v := (.bool true)) (op_at rfl) (by kernel_rfl) (by kernel_rfl) (by kernel_rfl) (fun _ _ _ h => h) (Or.inl ⟨rfl, fun w hSw => ?_⟩) (by assumption) ?_
                · (try dsimp only at hSw); go_simp; try with_reducible rfl
                (try simp only [Act.put, List.setIfInBounds_toArray, List.set_cons_zero, List.set_cons_succ])
                refine wpAnyH_take (i := 13) (v := (.slice (some ⟨b, off, none⟩) n cap)) (op_at rfl) (by kernel_rfl) (by kernel_rfl) (by kernel_rfl) (fun _ _ _ h => h) (Or.inl ⟨rfl, fun w hSw => ?_⟩) (by assumption) ?_
                · (try dsimp only at hSw); go_simp; try with_reducible rfl
                (try simp only [Act.put, List.setIfInBounds_toArray, List.set_cons_zero, List.set_cons_succ])
                refine wpAnyH_take (i := 14) (v := (.int .i64 (i : Int))) (op_at rfl) (by kernel_rfl) (by kernel_rfl) (by kernel_rfl) (fun _ _ _ h => h) (Or.inl ⟨rfl, fun w hSw => ?_⟩) (by assumption) ?_
                · (try dsimp only at hSw); go_simp; try with_reducible rfl
                (try simp only [Act.put, List.setIfInBounds_toArray, List.set_cons_zero, List.set_cons_succ])
                refine wpAnyH_take (i := 15) (v := (.pointer (some ⟨b, off + i * 3, none⟩))) (op_at rfl) (by kernel_rfl) (by kernel_rfl) (by kernel_rfl) (fun _ _ _ h => h) (Or.inl ⟨rfl, fun w hSw => ?_⟩) (by assumption) ?_
                · (try dsimp only at hSw); go_simp; try with_reducible rfl
                (try simp only [Act.put, List.setIfInBounds_toArray, List.set_cons_zero, List.set_cons_succ])
                refine wpAnyH_take (i := 16) (v := (.pointer (some ⟨b, off + i * 3 + 2, none⟩))) (op_at rfl) (by kernel_rfl) (by kernel_rfl) (by kernel_rfl) (fun _ _ _ h => h) (Or.inl ⟨rfl, fun w hSw => ?_⟩) (by assumption) ?_
                · (try dsimp only at hSw); go_simp; try with_reducible rfl
                (try simp only [Act.put, List.setIfInBounds_toArray, List.set_cons_zero, List.set_cons_succ])
                refine wpAnyH_take (i := 17) (v := (.int .i64 xw)) (op_at rfl) (by kernel_rfl) (by kernel_rfl) (by kernel_rfl) (fun _ _ _ h => h) (Or.inl ⟨rfl, fun w hSw => ?_⟩) (by assumption) ?_
                · (try dsimp only at hSw); go_simp; try with_reducible rfl
                (try simp only [Act.put, List.setIfInBounds_toArray, List.set_cons_zero, List.set_cons_succ])
                refine wpAnyH_take (i := 18) (v := (.slice (some ⟨b, off, none⟩) n cap)) (op_at rfl) (by kernel_rfl) (by kernel_rfl) (by kernel_rfl) (fun _ _ _ h => h) (Or.inl ⟨rfl, fun w hSw => ?_⟩) (by assumption) ?_
                · (try dsimp only at hSw); go_simp; try with_reducible rfl
                (try simp only [Act.put, List.setIfInBounds_toArray, List.set_cons_zero, List.set_cons_succ])
                refine wpAnyH_take (i := 19) (v := (.int .i64 (i : Int))) (op_at rfl) (by kernel_rfl) (by kernel_rfl) (by kernel_rfl) (fun _ _ _ h => h) (Or.inl ⟨rfl, fun w hSw => ?_⟩) (by assumption) ?_
                · (try dsimp only at hSw); go_simp; try with_reducible rfl
                (try simp only [Act.put, List.setIfInBounds_toArray, List.set_cons_zero, List.set_cons_succ])
                refine wpAnyH_take (i := 20) (v := (.pointer (some ⟨b, off + i * 3, none⟩))) (op_at rfl) (by kernel_rfl) (by kernel_rfl) (by kernel_rfl) (fun _ _ _ h => h) (Or.inl ⟨rfl, fun w hSw => ?_⟩) (by assumption) ?_
                · (try dsimp only at hSw); go_simp; try with_reducible rfl
                (try simp only [Act.put, List.setIfInBounds_toArray, List.set_cons_zero, List.set_cons_succ])
                refine wpAnyH_take (i := 21) (v := (.pointer (some ⟨b, off + i * 3, none⟩))) (op_at rfl) (by kernel_rfl) (by kernel_rfl) (by kernel_rfl) (fun _ _ _ h => h) (Or.inl ⟨rfl, fun w hSw => ?_⟩) (by assumption) ?_
                · (try dsimp only at hSw); go_simp; try with_reducible rfl
                (try simp only [Act.put, List.setIfInBounds_toArray, List.set_cons_zero, List.set_cons_succ])
                refine wpAnyH_take (i := 22) (v := (.string xa)) (op_at rfl) (by kernel_rfl) (by kernel_rfl) (by kernel_rfl) (fun _ _ _ h => h) (Or.inl ⟨rfl, fun w hSw => ?_⟩) (by assumption) ?_
                · (try dsimp only at hSw); go_simp; try with_reducible rfl
                (try simp only [Act.put, List.setIfInBounds_toArray, List.set_cons_zero, List.set_cons_succ])
                refine wpAnyH_take (i := 23) (v := (.slice (some ⟨b, off, none⟩) n cap)) (op_at rfl) (by kernel_rfl) (by kernel_rfl) (by kernel_rfl) (fun _ _ _ h => h) (Or.inl ⟨rfl, fun w hSw => ?_⟩) (by assumption) ?_
                · (try dsimp only at hSw); go_simp; try with_reducible rfl
                (try simp only [Act.put, List.setIfInBounds_toArray, List.set_cons_zero, List.set_cons_succ])
                refine wpAnyH_take (i := 24) (v := (.int .i64 (i : Int))) (op_at rfl) (by kernel_rfl) (by kernel_rfl) (by kernel_rfl) (fun _ _ _ h => h) (Or.inl ⟨rfl, fun w hSw => ?_⟩) (by assumption) ?_
                · (try dsimp only at hSw); go_simp; try with_reducible rfl
                (try simp only [Act.put, List.setIfInBounds_toArray, List.set_cons_zero, List.set_cons_succ])
                refine wpAnyH_take (i := 25) (v := (.pointer (some ⟨b, off + i * 3, none⟩))) (op_at rfl) (by kernel_rfl) (by kernel_rfl) (by kernel_rfl) (fun _ _ _ h => h) (Or.inl ⟨rfl, fun w hSw => ?_⟩) (by assumption) ?_
                · (try dsimp only at hSw); go_simp; try with_reducible rfl
                (try simp only [Act.put, List.setIfInBounds_toArray, List.set_cons_zero, List.set_cons_succ])
                refine wpAnyH_take (i := 26) (v := (.pointer (some ⟨b, off + i * 3 + 1, none⟩))) (op_at rfl) (by kernel_rfl) (by kernel_rfl) (by kernel_rfl) (fun _ _ _ h => h) (Or.inl ⟨rfl, fun w hSw => ?_⟩) (by assumption) ?_
                · (try dsimp only at hSw); go_simp; try with_reducible rfl
                (try simp only [Act.put, List.setIfInBounds_toArray, List.set_cons_zero, List.set_cons_succ])
                refine wpAnyH_take (i := 27) (v := (.string xb)) (op_at rfl) (by kernel_rfl) (by kernel_rfl) (by kernel_rfl) (fun _ _ _ h => h) (Or.inl ⟨rfl, fun w hSw => ?_⟩) (by assumption) ?_
                · (try dsimp only at hSw); go_simp; try with_reducible rfl
                (try simp only [Act.put, List.setIfInBounds_toArray, List.set_cons_zero, List.set_cons_succ])
                refine wpAnyH_ready (rs := [28]) (by kernel_rfl) (by simp) (AllReadyH.cons (op_at rfl) (fun K hK => ?_) AllReadyH.nil)
                go_simp
                ((refine (HWK.out _).mono ?_); rintro e w9 ⟨rfl, rfl⟩; rw [HWV.out])
                go_wp2_with fail
                refine hK.out _ _ ⟨a0, a1, a2⟩ (fun hHeld => ?_)
                clear hK K
                (try simp only [Act.put, List.setIfInBounds_toArray, List.set_cons_zero, List.set_cons_succ])
                refine wpAnyH_take (i := 29) (v := (.bool false)) (op_at rfl) (by kernel_rfl) (by kernel_rfl) (by kernel_rfl) (fun _ _ _ h => h) (Or.inl ⟨rfl, fun w hSw => ?_⟩) (by assumption) ?_
                · (try dsimp only at hSw); go_simp; try with_reducible rfl
                (try simp only [Act.put, List.setIfInBounds_toArray, List.set_cons_zero, List.set_cons_succ])
                refine wpAnyH_take (i := 30) (v := (.bool false)) (op_at rfl) (by kernel_rfl) (by kernel_rfl) (by kernel_rfl) (fun _ _ _ h => h) (Or.inl ⟨rfl, fun w hSw => ?_⟩) (by assumption) ?_
                · (try dsimp only at hSw); go_simp; try with_reducible rfl
                (try simp only [Act.put, List.setIfInBounds_toArray, List.set_cons_zero, List.set_cons_succ])
                refine wpAnyH_done (by kernel_rfl) ?_ _
                clear hHeld
                go_wp2_with fail
                have c1v : c1 = false := by rw [HC1.out]; rw [ha2, hb2, hp2]; first | rfl | (cases decide (Nm xb) <;> rfl)
                have c2v : c2 = false := by rw [HC2.out]; rw [ha2, HEA.out ha2, hh2]; cases (xa.toList == xb.toList) <;> rfl
                have c4v : c4 = false := by rw [HC4.out]; rw [HWV.out, hw]; rfl
                have HZ : Hid (raE l i ⟨xa, xb, xw⟩ = 0) := by rw [Hid, HE0.out, c1v, c2v, c4v, ho]; rfl
                have HSX : Hid (nmsL (l.take (i + 1)) = (S0 ++ [xb])) := by
                  rw [Hid, HTK.out, show nmsR ⟨xa, xb, xw⟩ = [xb] from by unfold nmsR; rw [if_pos ha, if_neg hb]; rfl]
                  try (first | rfl | simp)
                have HF2 : Hid (errG (raE l) l (n - (i + 1)) (i + 1) = errG (raE l) l n 0) := by rw [Hid, ← HF.out, errG_step hlt HX.out, HZ.out, if_pos rfl]
                go_roundg (gk - 1)
                case measure => omega
                case rel => exact ⟨i + 1, by go_num, by omega, by rw [HSX.out]; exact HO2.out.drew, HG5.out.drew, HF2⟩
              · have gd := (Gr.refl V5).drew
                refine wp_region_held_drew (S := (fun w' => w'.cell? ⟨b, off + i * 3, none⟩ = some (.string xa) ∧ w'.cell? ⟨b, off + i * 3 + 1, none⟩ = some (.string xb) ∧ w'.cell? ⟨b, off + i * 3 + 2, none⟩ = some (.int .i64 xw))) (by kernel_rfl) ⟨gd.cell a0, gd.cell a1, gd.cell a2⟩ (fun hHeld => ?_)
                replace a0 := gd.cell a0
                replace a1 := gd.cell a1
                replace a2 := gd.cell a2
                refine wpAnyH_take (i := 0) (v := (.slice (some ⟨b, off, none⟩) n cap)) (op_at rfl) (by kernel_rfl) (by kernel_rfl) (by kernel_rfl) (fun _ _ _ h => h) (Or.inl ⟨rfl, fun w hSw => ?_⟩) (by assumption) ?_
                · (try dsimp only at hSw); go_simp; try with_reducible rfl
                (try simp only [Act.put, List.setIfInBounds_toArray, List.set_cons_zero, List.set_cons_succ])
                refine wpAnyH_take (i := 1) (v := (.int .i64 (i : Int))) (op_at rfl) (by kernel_rfl) (by kernel_rfl) (by kernel_rfl) (fun _ _ _ h => h) (Or.inl ⟨rfl, fun w hSw => ?_⟩) (by assumption) ?_
                · (try dsimp only at hSw); go_simp; try with_reducible rfl
                (try simp only [Act.put, List.setIfInBounds_toArray, List.set_cons_zero, List.set_cons_succ])
                refine wpAnyH_take (i := 2) (v := (.pointer (some ⟨b, off + i * 3, none⟩))) (op_at rfl) (by kernel_rfl) (by kernel_rfl) (by kernel_rfl) (fun _ _ _ h => h) (Or.inl ⟨rfl, fun w hSw => ?_⟩) (by assumption) ?_
                · (try dsimp only at hSw); go_simp; try with_reducible rfl
                (try simp only [Act.put, List.setIfInBounds_toArray, List.set_cons_zero, List.set_cons_succ])
                refine wpAnyH_take (i := 3) (v := (.pointer (some ⟨b, off + i * 3, none⟩))) (op_at rfl) (by kernel_rfl) (by kernel_rfl) (by kernel_rfl) (fun _ _ _ h => h) (Or.inl ⟨rfl, fun w hSw => ?_⟩) (by assumption) ?_
                · (try dsimp only at hSw); go_simp; try with_reducible rfl
                (try simp only [Act.put, List.setIfInBounds_toArray, List.set_cons_zero, List.set_cons_succ])
                refine wpAnyH_take (i := 4) (v := (.string xa)) (op_at rfl) (by kernel_rfl) (by kernel_rfl) (by kernel_rfl) (fun _ _ _ h => h) (Or.inl ⟨rfl, fun w hSw => ?_⟩) (by assumption) ?_
                · (try dsimp only at hSw); go_simp; try with_reducible rfl
                (try simp only [Act.put, List.setIfInBounds_toArray, List.set_cons_zero, List.set_cons_succ])
                refine wpAnyH_take (i := 5) (v := (.slice (some ⟨b, off, none⟩) n cap)) (op_at rfl) (by kernel_rfl) (by kernel_rfl) (by kernel_rfl) (fun _ _ _ h => h) (Or.inl ⟨rfl, fun w hSw => ?_⟩) (by assumption) ?_
                · (try dsimp only at hSw); go_simp; try with_reducible rfl
                (try simp only [Act.put, List.setIfInBounds_toArray, List.set_cons_zero, List.set_cons_succ])
                refine wpAnyH_take (i := 6) (v := (.int .i64 (i : Int))) (op_at rfl) (by kernel_rfl) (by kernel_rfl) (by kernel_rfl) (fun _ _ _ h => h) (Or.inl ⟨rfl, fun w hSw => ?_⟩) (by assumption) ?_
                · (try dsimp only at hSw); go_simp; try with_reducible rfl
                (try simp only [Act.put, List.setIfInBounds_toArray, List.set_cons_zero, List.set_cons_succ])
                refine wpAnyH_take (i := 7) (v := (.pointer (some ⟨b, off + i * 3, none⟩))) (op_at rfl) (by kernel_rfl) (by kernel_rfl) (by kernel_rfl) (fun _ _ _ h => h) (Or.inl ⟨rfl, fun w hSw => ?_⟩) (by assumption) ?_
                · (try dsimp only at hSw); go_simp; try with_reducible rfl
                (try simp only [Act.put, List.setIfInBounds_toArray, List.set_cons_zero, List.set_cons_succ])
                refine wpAnyH_take (i := 8) (v := (.pointer (some ⟨b, off + i * 3 + 1, none⟩))) (op_at rfl) (by kernel_rfl) (by kernel_rfl) (by kernel_rfl) (fun _ _ _ h => h) (Or.inl ⟨rfl, fun w hSw => ?_⟩) (by assumption) ?_
                · (try dsimp only at hSw); go_simp; try with_reducible rfl
                (try simp only [Act.put, List.setIfInBounds_toArray, List.set_cons_zero, List.set_cons_succ])
                refine wpAnyH_take (i := 9) (v := (.string xb)) (op_at rfl) (by kernel_rfl) (by kernel_rfl) (by kernel_rfl) (fun _ _ _ h => h) (Or.inl ⟨rfl, fun w hSw => ?_⟩) (by assumption) ?_
                · (try dsimp only at hSw); go_simp; try with_reducible rfl
                (try simp only [Act.put, List.setIfInBounds_toArray, List.set_cons_zero, List.set_cons_succ])
                refine wpAnyH_ready (rs := [10]) (by kernel_rfl) (by simp) (AllReadyH.cons (op_at rfl) (fun K hK => ?_) AllReadyH.nil)
                go_simp
                ((refine (HWK.out _).mono ?_); rintro e w9 ⟨rfl, rfl⟩; rw [HWV.out])
                go_wp2_with fail
                refine hK.out _ _ ⟨a0, a1, a2⟩ (fun hHeld => ?_)
                clear hK K
                (try simp only [Act.put, List.setIfInBounds_toArray, List.set_cons_zero, List.set_cons_succ])
                refine wpAnyH_take (i := 11) (v := (.bool true)) (op_at rfl) (by kernel_rfl) (by kernel_rfl) (by kernel_rfl) (fun _ _ _ h => h) (Or.inl ⟨rfl, fun w hSw => ?_⟩) (by assumption) ?_
                · (try dsimp only at hSw); go_simp; try with_reducible rfl
                (try simp only [Act.put, List.setIfInBounds_toArray, List.set_cons_zero, List.set_cons_succ])
                refine wpAnyH_take (i := 12) (v := (.bool true)) (op_at rfl) (by kernel_rfl) (by kernel_rfl) (by kernel_rfl) (fun _ _ _ h => h) (Or.inl ⟨rfl, fun w hSw => ?_⟩) (by assumption) ?_
                · (try dsimp only at hSw); go_simp; try with_reducible rfl
                (try simp only [Act.put, List.setIfInBounds_toArray, List.set_cons_zero, List.set_cons_succ])
                refine wpAnyH_take (i := 13) (v := (.slice (some ⟨b, off, none⟩) n cap)) (op_at rfl) (by kernel_rfl) (by kernel_rfl) (by kernel_rfl) (fun _ _ _ h => h) (Or.inl ⟨rfl, fun w hSw => ?_⟩) (by assumption) ?_
                · (try dsimp only at hSw); go_simp; try with_reducible rfl
                (try simp only [Act.put, List.setIfInBounds_toArray, List.set_cons_zero, List.set_cons_succ])
                refine wpAnyH_take (i := 14) (v := (.int .i64 (i : Int))) (op_at rfl) (by kernel_rfl) (by kernel_rfl) (by kernel_rfl) (fun _ _ _ h => h) (Or.inl ⟨rfl, fun w hSw => ?_⟩) (by assumption) ?_
                · (try dsimp only at hSw); go_simp; try with_reducible rfl
                (try simp only [Act.put, List.setIfInBounds_toArray, List.set_cons_zero, List.set_cons_succ])
                refine wpAnyH_take (i := 15) (v := (.pointer (some ⟨b, off + i * 3, none⟩))) (op_at rfl) (by kernel_rfl) (by kernel_rfl) (by kernel_rfl) (fun _ _ _ h => h) (Or.inl ⟨rfl, fun w hSw => ?_⟩) (by assumption) ?_
                · (try dsimp only at hSw); go_simp; try with_reducible rfl
                (try simp only [Act.put, List.setIfInBounds_toArray, List.set_cons_zero, List.set_cons_succ])
                refine wpAnyH_take (i := 16) (v := (.pointer (some ⟨b, off + i * 3 + 2, none⟩))) (op_at rfl) (by kernel_rfl) (by kernel_rfl) (by kernel_rfl) (fun _ _ _ h => h) (Or.inl ⟨rfl, fun w hSw => ?_⟩) (by assumption) ?_
                · (try dsimp only at hSw); go_simp; try with_reducible rfl
                (try simp only [Act.put, List.setIfInBounds_toArray, List.set_cons_zero, List.set_cons_succ])
                refine wpAnyH_take (i := 17) (v := (.int .i64 xw)) (op_at rfl) (by kernel_rfl) (by kernel_rfl) (by kernel_rfl) (fun _ _ _ h => h) (Or.inl ⟨rfl, fun w hSw => ?_⟩) (by assumption) ?_
                · (try dsimp only at hSw); go_simp; try with_reducible rfl
                (try simp only [Act.put, List.setIfInBounds_toArray, List.set_cons_zero, List.set_cons_succ])
                refine wpAnyH_take (i := 18) (v := (.slice (some ⟨b, off, none⟩) n cap)) (op_at rfl) (by kernel_rfl) (by kernel_rfl) (by kernel_rfl) (fun _ _ _ h => h) (Or.inl ⟨rfl, fun w hSw => ?_⟩) (by assumption) ?_
                · (try dsimp only at hSw); go_simp; try with_reducible rfl
                (try simp only [Act.put, List.setIfInBounds_toArray, List.set_cons_zero, List.set_cons_succ])
                refine wpAnyH_take (i := 19) (v := (.int .i64 (i : Int))) (op_at rfl) (by kernel_rfl) (by kernel_rfl) (by kernel_rfl) (fun _ _ _ h => h) (Or.inl ⟨rfl, fun w hSw => ?_⟩) (by assumption) ?_
                · (try dsimp only at hSw); go_simp; try with_reducible rfl
                (try simp only [Act.put, List.setIfInBounds_toArray, List.set_cons_zero, List.set_cons_succ])
                refine wpAnyH_take (i := 20) (v := (.pointer (some ⟨b, off + i * 3, none⟩))) (op_at rfl) (by kernel_rfl) (by kernel_rfl) (by kernel_rfl) (fun _ _ _ h => h) (Or.inl ⟨rfl, fun w hSw => ?_⟩) (by assumption) ?_
                · (try dsimp only at hSw); go_simp; try with_reducible rfl
                (try simp only [Act.put, List.setIfInBounds_toArray, List.set_cons_zero, List.set_cons_succ])
                refine wpAnyH_take (i := 21) (v := (.pointer (some ⟨b, off + i * 3, none⟩))) (op_at rfl) (by kernel_rfl) (by kernel_rfl) (by kernel_rfl) (fun _ _ _ h => h) (Or.inl ⟨rfl, fun w hSw => ?_⟩) (by assumption) ?_
                · (try dsimp only at hSw); go_simp; try with_reducible rfl
                (try simp only [Act.put, List.setIfInBounds_toArray, List.set_cons_zero, List.set_cons_succ])
                refine wpAnyH_take (i := 22) (v := (.string xa)) (op_at rfl) (by kernel_rfl) (by kernel_rfl) (by kernel_rfl) (fun _ _ _ h => h) (Or.inl ⟨rfl, fun w hSw => ?_⟩) (by assumption) ?_
                · (try dsimp only at hSw); go_simp; try with_reducible rfl
                (try simp only [Act.put, List.setIfInBounds_toArray, List.set_cons_zero, List.set_cons_succ])
                refine wpAnyH_take (i := 23) (v := (.slice (some ⟨b, off, none⟩) n cap)) (op_at rfl) (by kernel_rfl) (by kernel_rfl) (by kernel_rfl) (fun _ _ _ h => h) (Or.inl ⟨rfl, fun w hSw => ?_⟩) (by assumption) ?_
                · (try dsimp only at hSw); go_simp; try with_reducible rfl
                (try simp only [Act.put, List.setIfInBounds_toArray, List.set_cons_zero, List.set_cons_succ])
                refine wpAnyH_take (i := 24) (v := (.int .i64 (i : Int))) (op_at rfl) (by kernel_rfl) (by kernel_rfl) (by kernel_rfl) (fun _ _ _ h => h) (Or.inl ⟨rfl, fun w hSw => ?_⟩) (by assumption) ?_
                · (try dsimp only at hSw); go_simp; try with_reducible rfl
                (try simp only [Act.put, List.setIfInBounds_toArray, List.set_cons_zero, List.set_cons_succ])
                refine wpAnyH_take (i := 25) (v := (.pointer (some ⟨b, off + i * 3, none⟩))) (op_at rfl) (by kernel_rfl) (by kernel_rfl) (by kernel_rfl) (fun _ _ _ h => h) (Or.inl ⟨rfl, fun w hSw => ?_⟩) (by assumption) ?_
                · (try dsimp only at hSw); go_simp; try with_reducible rfl
                (try simp only [Act.put, List.setIfInBounds_toArray, List.set_cons_zero, List.set_cons_succ])
                refine wpAnyH_take (i := 26) (v := (.pointer (some ⟨b, off + i * 3 + 1, none⟩))) (op_at rfl) (by kernel_rfl) (by kernel_rfl) (by kernel_rfl) (fun _ _ _ h => h) (Or.inl ⟨rfl, fun w hSw => ?_⟩) (by assumption) ?_
                · (try dsimp only at hSw); go_simp; try with_reducible rfl
                (try simp only [Act.put, List.setIfInBounds_toArray, List.set_cons_zero, List.set_cons_succ])
                refine wpAnyH_take (i := 27) (v := (.string xb)) (op_at rfl) (by kernel_rfl) (by kernel_rfl) (by kernel_rfl) (fun _ _ _ h => h) (Or.inl ⟨rfl, fun w hSw => ?_⟩) (by assumption) ?_
                · (try dsimp only at hSw); go_simp; try with_reducible rfl
                (try simp only [Act.put, List.setIfInBounds_toArray, List.set_cons_zero, List.set_cons_succ])
                refine wpAnyH_ready (rs := [28]) (by kernel_rfl) (by simp) (AllReadyH.cons (op_at rfl) (fun K hK => ?_) AllReadyH.nil)
                go_simp
                ((refine (HWK.out _).mono ?_); rintro e w9 ⟨rfl, rfl⟩; rw [HWV.out])
                go_wp2_with fail
                refine hK.out _ _ ⟨a0, a1, a2⟩ (fun hHeld => ?_)
                clear hK K
                (try simp only [Act.put, List.setIfInBounds_toArray, List.set_cons_zero, List.set_cons_succ])
                refine wpAnyH_take (i := 29) (v := (.bool true)) (op_at rfl) (by kernel_rfl) (by kernel_rfl) (by kernel_rfl) (fun _ _ _ h => h) (Or.inl ⟨rfl, fun w hSw => ?_⟩) (by assumption) ?_
                · (try dsimp only at hSw); go_simp; try with_reducible rfl
                (try simp only [Act.put, List.setIfInBounds_toArray, List.set_cons_zero, List.set_cons_succ])
                refine wpAnyH_take (i := 30) (v := (.bool true)) (op_at rfl) (by kernel_rfl) (by kernel_rfl) (by kernel_rfl) (fun _ _ _ h => h) (Or.inl ⟨rfl, fun w hSw => ?_⟩) (by assumption) ?_
                · (try dsimp only at hSw); go_simp; try with_reducible rfl
                (try simp only [Act.put, List.setIfInBounds_toArray, List.set_cons_zero, List.set_cons_succ])
                refine wpAnyH_done (by kernel_rfl) ?_ _
                clear hHeld
                go_wp2_with fail
                have c1v : c1 = false := by rw [HC1.out]; rw [ha2, hb2, hp2]; first | rfl | (cases decide (Nm xb) <;> rfl)
                have c2v : c2 = false := by rw [HC2.out]; rw [ha2, HEA.out ha2, hh2]; cases (xa.toList == xb.toList) <;> rfl
                have c4v : c4 = true := by rw [HC4.out]; rw [HWV.out, show (xw == 2) = false from beq_eq_false_iff_ne.2 hw]; rfl
                have HZ : Hid (raE l i ⟨xa, xb, xw⟩ = 19) := by rw [Hid, HE0.out, c1v, c2v, c4v, ho]; rfl
                have HR : Hid (racesE l = 19) := by rw [Hid, HE.out, ← HF.out, errG_step hlt HX.out, HZ.out]; rfl
                go_wp2_with fail
                go_ret
                exact ⟨by rw [HR.out]; rfl, HG5.out.drew⟩
            · refine wp_loop_rounds 3 ?_
              rw [rounds_succ]
              go_wp2_with fail
              cases hp1 : decide (Nm xa)
              · have HQ := HN1.out V1
                rw [hp1] at HQ
                refine HQ.mono ?_
                rintro e w9 ⟨rfl, rfl⟩
                clear HQ
                go_wp2_with fail
                have c1v : c1 = true := by rw [HC1.out]; rw [ha2, hb2, hp1]; first | rfl | (cases decide (Nm xb) <;> rfl)
                have HZ : Hid (raE l i ⟨xa, xb, xw⟩ = 8) := by rw [Hid, HE0.out, c1v]; rfl
                have HR : Hid (racesE l = 8) := by rw [Hid, HE.out, ← HF.out, errG_step hlt HX.out, HZ.out]; rfl
                go_wp2_with fail
                go_ret
                exact ⟨by rw [HR.out]; rfl, HG1.out⟩
              have HQ := HN1.out V1
              rw [hp1] at HQ
              refine HQ.mono ?_
              rintro e w9 ⟨rfl, rfl⟩
              clear HQ
              go_wp2_with fail
              rw [rounds_succ]
              go_wp2_with fail
              rw [rounds_succ]
              go_wp2_with fail
              refine wp_loop_rounds 3 ?_
              rw [rounds_succ]
              go_wp2_with fail
              have HQ := refHas6_c (nmAts_of_own rfl HOV1.out) (by have := HLS.out; (try simp only [List.length_append, List.length_cons, List.length_nil]); omega) xa
              cases hh1 : hasS S0 xa
              rotate_left
              · rw [hh1] at HQ
                refine HQ.mono ?_
                rintro e w9 ⟨rfl, rfl⟩
                clear HQ
                go_wp2_with fail
                have c1v : c1 = false := by rw [HC1.out]; rw [ha2, hb2, hp1]; first | rfl | (cases decide (Nm xb) <;> rfl)
                have c2v : c2 = true := by rw [HC2.out]; rw [ha2, hh1]; cases (xa.toList == xb.toList) <;> rfl
                have HZ : Hid (raE l i ⟨xa, xb, xw⟩ = 9) := by rw [Hid, HE0.out, c1v, c2v]; rfl
                have HR : Hid (racesE l = 9) := by rw [Hid, HE.out, ← HF.out, errG_step hlt HX.out, HZ.out]; rfl
                go_wp2_with fail
                go_ret
                exact ⟨by rw [HR.out]; rfl, HG1.out⟩
              rw [hh1] at HQ
              refine HQ.mono ?_
              rintro e w9 ⟨rfl, rfl⟩
              clear HQ
              have hA1 := HOV1.out.alloc (.cells #[.string xa] 9)
              go_wp2_with (at_builtin; refine wpList_append_own _ rfl _ _ 48 rfl w.heap.size 9 i0 (.string ⟨#[]⟩) 1 16 Tryz.underlying48 hi hz0 hz1 hz2 rfl (by decide) _ _ _ rfl hA1 ⟨V1.heap.size, 0, none⟩ 1 1 [.string xa] rfl rfl (cell_one6 _ _ _) (by intro u hu; simp at hu; subst hu; rfl) (by have := HLS.out; unfold maxLen; (try simp only [List.length_append, List.length_cons, List.length_nil]); omega) (by have := HLS.out; (try simp only [List.length_append, List.length_cons, List.length_nil]); omega) (by have := HG1.out.size; simp; omega) ?_; intro v1 V3 hown1 hgrow1 _)
              have HO1 : Hid (V3.ownsRow w.heap.size 9 1 v1 (S0 ++ [xa]).length (nmC (S0 ++ [xa]))) := by rw [nmC_add, List.length_append]; exact hown1
              have HG3 : Hid (Gr w V3) := Below.grown (HG1.out.alloc _) hgrow1 (by have := HG1.out.size; simp; omega) (fun q hq => (own_in HOV1.out hq).2)
              replace n1 := (World.cell?_of_block (a := ⟨Bn, 1, none⟩) (hgrow1.block Bn (by have := HSB.out; simp; omega) (fun e => by have := HLT.out Bn e.symm; omega))).trans (Gr.cell ((Gr.refl V1).alloc (.cells #[.string xa] 9)) n1)
              replace a0 := Gr.cell HG3.out B0.out
              replace a1 := Gr.cell HG3.out B1.out
              replace a2 := Gr.cell HG3.out B2.out
              clear hown1 hgrow1 hA1
              go_wp2_with fail
              rw [rounds_succ]
              go_wp2_with fail
              rw [rounds_succ]
              go_wp2_with fail
              refine (HOU.out _).mono ?_
              rintro e w9 ⟨rfl, rfl⟩
              rcases HO3.out with ho | ho
              · rw [ho]
                go_wp2_with fail
                have c1v : c1 = false := by rw [HC1.out]; rw [ha2, hb2, hp1]; first | rfl | (cases decide (Nm xb) <;> rfl)
                have c2v : c2 = false := by rw [HC2.out]; rw [ha2, hh1, HEB.out hb2, hb]; rw [show (xa.toList == []) = false from beq_eq_false_iff_ne.2 ha]; rfl
                have HZ : Hid (raE l i ⟨xa, xb, xw⟩ = 3) := by rw [Hid, HE0.out, c1v, c2v, ho]; rfl
                have HR : Hid (racesE l = 3) := by rw [Hid, HE.out, ← HF.out, errG_step hlt HX.out, HZ.out]; rfl
                go_wp2_with fail
                go_ret
                exact ⟨by rw [HR.out]; rfl, HG3.out⟩
              rw [ho]
              go_wp2_with fail
              have HWV : Hid (walkW xa xb = 1) := by rw [Hid, HWW, if_neg ha, if_pos hb]
              clear HWW
              by_cases hw : xw = 1
              · have gd := (Gr.refl V3).drew
                refine wp_region_held_drew (S := (fun w' => w'.cell? ⟨b, off + i * 3, none⟩ = some (.string xa) ∧ w'.cell? ⟨b, off + i * 3 + 1, none⟩ = some (.string xb) ∧ w'.cell? ⟨b, off + i * 3 + 2, none⟩ = some (.int .i64 xw))) (by kernel_rfl) ⟨gd.cell a0, gd.cell a1, gd.cell a2⟩ (fun hHeld => ?_)
                replace a0 := gd.cell a0
                replace a1 := gd.cell a1
                replace a2 := gd.cell a2
                refine wpAnyH_take (i := 0) (v := (.slice (some ⟨b, off, none⟩) n cap)) (op_at rfl) (by kernel_rfl) (by kernel_rfl) (by kernel_rfl) (fun _ _ _ h => h) (Or.inl ⟨rfl, fun w hSw => ?_⟩) (by assumption) ?_
                · (try dsimp only at hSw); go_simp; try with_reducible rfl
                (try simp only [Act.put, List.setIfInBounds_toArray, List.set_cons_zero, List.set_cons_succ])
                refine wpAnyH_take (i := 1) (v := (.int .i64 (i : Int))) (op_at rfl) (by kernel_rfl) (by kernel_rfl) (by kernel_rfl) (fun _ _ _ h => h) (Or.inl ⟨rfl, fun w hSw => ?_⟩) (by assumption) ?_
                · (try dsimp only at hSw); go_simp; try with_reducible rfl
                (try simp only [Act.put, List.setIfInBounds_toArray, List.set_cons_zero, List.set_cons_succ])
                refine wpAnyH_take (i := 2) (v := (.pointer (some ⟨b, off + i * 3, none⟩))) (op_at rfl) (by kernel_rfl) (by kernel_rfl) (by kernel_rfl) (fun _ _ _ h => h) (Or.inl ⟨rfl, fun w hSw => ?_⟩) (by assumption) ?_
                · (try dsimp only at hSw); go_simp; try with_reducible rfl
                (try simp only [Act.put, List.setIfInBounds_toArray, List.set_cons_zero, List.set_cons_succ])
                refine wpAnyH_take (i := 3) (v := (.pointer (some ⟨b, off + i * 3, none⟩))) (op_at rfl) (by kernel_rfl) (by kernel_rfl) (by kernel_rfl) (fun _ _ _ h => h) (Or.inl ⟨rfl, fun w hSw => ?_⟩) (by assumption) ?_
                · (try dsimp only at hSw); go_simp; try with_reducible rfl
                (try simp only [Act.put, List.setIfInBounds_toArray, List.set_cons_zero, List.set_cons_succ])
                refine wpAnyH_take (i := 4) (v := (.string xa)) (op_at rfl) (by kernel_rfl) (by kernel_rfl) (by kernel_rfl) (fun _ _ _ h => h) (Or.inl ⟨rfl, fun w hSw => ?_⟩) (by assumption) ?_
                · (try dsimp only at hSw); go_simp; try with_reducible rfl
                (try simp only [Act.put, List.setIfInBounds_toArray, List.set_cons_zero, List.set_cons_succ])
                refine wpAnyH_take (i := 5) (v := (.slice (some ⟨b, off, none⟩) n cap)) (op_at rfl) (by kernel_rfl) (by kernel_rfl) (by kernel_rfl) (fun _ _ _ h => h) (Or.inl ⟨rfl, fun w hSw => ?_⟩) (by assumption) ?_
                · (try dsimp only at hSw); go_simp; try with_reducible rfl
                (try simp only [Act.put, List.setIfInBounds_toArray, List.set_cons_zero, List.set_cons_succ])
                refine wpAnyH_take (i := 6) (v := (.int .i64 (i : Int))) (op_at rfl) (by kernel_rfl) (by kernel_rfl) (by kernel_rfl) (fun _ _ _ h => h) (Or.inl ⟨rfl, fun w hSw => ?_⟩) (by assumption) ?_
                · (try dsimp only at hSw); go_simp; try with_reducible rfl
                (try simp only [Act.put, List.setIfInBounds_toArray, List.set_cons_zero, List.set_cons_succ])
                refine wpAnyH_take (i := 7) (v := (.pointer (some ⟨b, off + i * 3, none⟩))) (op_at rfl) (by kernel_rfl) (by kernel_rfl) (by kernel_rfl) (fun _ _ _ h => h) (Or.inl ⟨rfl, fun w hSw => ?_⟩) (by assumption) ?_
                · (try dsimp only at hSw); go_simp; try with_reducible rfl
                (try simp only [Act.put, List.setIfInBounds_toArray, List.set_cons_zero, List.set_cons_succ])
                refine wpAnyH_take (i := 8) (v := (.pointer (some ⟨b, off + i * 3 + 1, none⟩))) (op_at rfl) (by kernel_rfl) (by kernel_rfl) (by kernel_rfl) (fun _ _ _ h => h) (Or.inl ⟨rfl, fun w hSw => ?_⟩) (by assumption) ?_
                · (try dsimp only at hSw); go_simp; try with_reducible rfl
                (try simp only [Act.put, List.setIfInBounds_toArray, List.set_cons_zero, List.set_cons_succ])
                refine wpAnyH_take (i := 9) (v := (.string xb)) (op_at rfl) (by kernel_rfl) (by kernel_rfl) (by kernel_rfl) (fun _ _ _ h => h) (Or.inl ⟨rfl, fun w hSw => ?_⟩) (by assumption) ?_
                · (try dsimp only at hSw); go_simp; try with_reducible rfl
                (try simp only [Act.put, List.setIfInBounds_toArray, List.set_cons_zero, List.set_cons_succ])
                refine wpAnyH_ready (rs := [10]) (by kernel_rfl) (by simp) (AllReadyH.cons (op_at rfl) (fun K hK => ?_) AllReadyH.nil)
                go_simp
                ((refine (HWK.out _).mono ?_); rintro e w9 ⟨rfl, rfl⟩; rw [HWV.out])
                go_wp2_with fail
                refine hK.out _ _ ⟨a0, a1, a2⟩ (fun hHeld => ?_)
                clear hK K
                (try simp only [Act.put, List.setIfInBounds_toArray, List.set_cons_zero, List.set_cons_succ])
                refine wpAnyH_take (i := 11) (v := (.bool true)) (op_at rfl) (by kernel_rfl) (by kernel_rfl) (by kernel_rfl) (fun _ _ _ h => h) (Or.inl ⟨rfl, fun w hSw => ?_⟩) (by assumption) ?_
                · (try dsimp only at hSw); go_simp; try with_reducible rfl
                (try simp only [Act.put, List.setIfInBounds_toArray, List.set_cons_zero, List.set_cons_succ])
                refine wpAnyH_take (i := 12) (v := (.bool true)) (op_at rfl) (by kernel_rfl) (by kernel_rfl) (by kernel_rfl) (fun _ _ _ h => h) (Or.inl ⟨rfl, fun w hSw => ?_⟩) (by assumption) ?_
                · (try dsimp only at hSw); go_simp; try with_reducible rfl
                (try simp only [Act.put, List.setIfInBounds_toArray, List.set_cons_zero, List.set_cons_succ])
                refine wpAnyH_take (i := 13) (v := (.slice (some ⟨b, off, none⟩) n cap)) (op_at rfl) (by kernel_rfl) (by kernel_rfl) (by kernel_rfl) (fun _ _ _ h => h) (Or.inl ⟨rfl, fun w hSw => ?_⟩) (by assumption) ?_
                · (try dsimp only at hSw); go_simp; try with_reducible rfl
                (try simp only [Act.put, List.setIfInBounds_toArray, List.set_cons_zero, List.set_cons_succ])
                refine wpAnyH_take (i := 14) (v := (.int .i64 (i : Int))) (op_at rfl) (by kernel_rfl) (by kernel_rfl) (by kernel_rfl) (fun _ _ _ h => h) (Or.inl ⟨rfl, fun w hSw => ?_⟩) (by assumption) ?_
                · (try dsimp only at hSw); go_simp; try with_reducible rfl
                (try simp only [Act.put, List.setIfInBounds_toArray, List.set_cons_zero, List.set_cons_succ])
                refine wpAnyH_take (i := 15) (v := (.pointer (some ⟨b, off + i * 3, none⟩))) (op_at rfl) (by kernel_rfl) (by kernel_rfl) (by kernel_rfl) (fun _ _ _ h => h) (Or.inl ⟨rfl, fun w hSw => ?_⟩) (by assumption) ?_
                · (try dsimp only at hSw); go_simp; try with_reducible rfl
                (try simp only [Act.put, List.setIfInBounds_toArray, List.set_cons_zero, List.set_cons_succ])
                refine wpAnyH_take (i := 16) (v := (.pointer (some ⟨b, off + i * 3 + 2, none⟩))) (op_at rfl) (by kernel_rfl) (by kernel_rfl) (by kernel_rfl) (fun _ _ _ h => h) (Or.inl ⟨rfl, fun w hSw => ?_⟩) (by assumption) ?_
                · (try dsimp only at hSw); go_simp; try with_reducible rfl
                (try simp only [Act.put, List.setIfInBounds_toArray, List.set_cons_zero, List.set_cons_succ])
                refine wpAnyH_take (i := 17) (v := (.int .i64 xw)) (op_at rfl) (by kernel_rfl) (by kernel_rfl) (by kernel_rfl) (fun _ _ _ h => h) (Or.inl ⟨rfl, fun w hSw => ?_⟩) (by assumption) ?_
                · (try dsimp only at hSw); go_simp; try with_reducible rfl
                (try simp only [Act.put, List.setIfInBounds_toArray, List.set_cons_zero, List.set_cons_succ])
                refine wpAnyH_take (i := 18) (v := (.slice (some ⟨b, off, none⟩) n cap)) (op_at rfl) (by kernel_rfl) (by kernel_rfl) (by kernel_rfl) (fun _ _ _ h => h) (Or.inl ⟨rfl, fun w hSw => ?_⟩) (by assumption) ?_
                · (try dsimp only at hSw); go_simp; try with_reducible rfl
                (try simp only [Act.put, List.setIfInBounds_toArray, List.set_cons_zero, List.set_cons_succ])
                refine wpAnyH_take (i := 19) (v := (.int .i64 (i : Int))) (op_at rfl) (by kernel_rfl) (by kernel_rfl) (by kernel_rfl) (fun _ _ _ h => h) (Or.inl ⟨rfl, fun w hSw => ?_⟩) (by assumption) ?_
                · (try dsimp only at hSw); go_simp; try with_reducible rfl
                (try simp only [Act.put, List.setIfInBounds_toArray, List.set_cons_zero, List.set_cons_succ])
                refine wpAnyH_take (i := 20) (v := (.pointer (some ⟨b, off + i * 3, none⟩))) (op_at rfl) (by kernel_rfl) (by kernel_rfl) (by kernel_rfl) (fun _ _ _ h => h) (Or.inl ⟨rfl, fun w hSw => ?_⟩) (by assumption) ?_
                · (try dsimp only at hSw); go_simp; try with_reducible rfl
                (try simp only [Act.put, List.setIfInBounds_toArray, List.set_cons_zero, List.set_cons_succ])
                refine wpAnyH_take (i := 21) (v := (.pointer (some ⟨b, off + i * 3, none⟩))) (op_at rfl) (by kernel_rfl) (by kernel_rfl) (by kernel_rfl) (fun _ _ _ h => h) (Or.inl ⟨rfl, fun w hSw => ?_⟩) (by assumption) ?_
                · (try dsimp only at hSw); go_simp; try with_reducible rfl
                (try simp only [Act.put, List.setIfInBounds_toArray, List.set_cons_zero, List.set_cons_succ])
                refine wpAnyH_take (i := 22) (v := (.string xa)) (op_at rfl) (by kernel_rfl) (by kernel_rfl) (by kernel_rfl) (fun _ _ _ h => h) (Or.inl ⟨rfl, fun w hSw => ?_⟩) (by assumption) ?_
                · (try dsimp only at hSw); go_simp; try with_reducible rfl
                (try simp only [Act.put, List.setIfInBounds_toArray, List.set_cons_zero, List.set_cons_succ])
                refine wpAnyH_take (i := 23) (v := (.slice (some ⟨b, off, none⟩) n cap)) (op_at rfl) (by kernel_rfl) (by kernel_rfl) (by kernel_rfl) (fun _ _ _ h => h) (Or.inl ⟨rfl, fun w hSw => ?_⟩) (by assumption) ?_
                · (try dsimp only at hSw); go_simp; try with_reducible rfl
                (try simp only [Act.put, List.setIfInBounds_toArray, List.set_cons_zero, List.set_cons_succ])
                refine wpAnyH_take (i := 24) (v := (.int .i64 (i : Int))) (op_at rfl) (by kernel_rfl) (by kernel_rfl) (by kernel_rfl) (fun _ _ _ h => h) (Or.inl ⟨rfl, fun w hSw => ?_⟩) (by assumption) ?_
                · (try dsimp only at hSw); go_simp; try with_reducible rfl
                (try simp only [Act.put, List.setIfInBounds_toArray, List.set_cons_zero, List.set_cons_succ])
                refine wpAnyH_take (i := 25) (v := (.pointer (some ⟨b, off + i * 3, none⟩))) (op_at rfl) (by kernel_rfl) (by kernel_rfl) (by kernel_rfl) (fun _ _ _ h => h) (Or.inl ⟨rfl, fun w hSw => ?_⟩) (by assumption) ?_
                · (try dsimp only at hSw); go_simp; try with_reducible rfl
                (try simp only [Act.put, List.setIfInBounds_toArray, List.set_cons_zero, List.set_cons_succ])
                refine wpAnyH_take (i := 26) (v := (.pointer (some ⟨b, off + i * 3 + 1, none⟩))) (op_at rfl) (by kernel_rfl) (by kernel_rfl) (by kernel_rfl) (fun _ _ _ h => h) (Or.inl ⟨rfl, fun w hSw => ?_⟩) (by assumption) ?_
                · (try dsimp only at hSw); go_simp; try with_reducible rfl
                (try simp only [Act.put, List.setIfInBounds_toArray, List.set_cons_zero, List.set_cons_succ])
                refine wpAnyH_take (i := 27) (v := (.string xb)) (op_at rfl) (by kernel_rfl) (by kernel_rfl) (by kernel_rfl) (fun _ _ _ h => h) (Or.inl ⟨rfl, fun w hSw => ?_⟩) (by assumption) ?_
                · (try dsimp only at hSw); go_simp; try with_reducible rfl
                (try simp only [Act.put, List.setIfInBounds_toArray, List.set_cons_zero, List.set_cons_succ])
                refine wpAnyH_ready (rs := [28]) (by kernel_rfl) (by simp) (AllReadyH.cons (op_at rfl) (fun K hK => ?_) AllReadyH.nil)
                go_simp
                ((refine (HWK.out _).mono ?_); rintro e w9 ⟨rfl, rfl⟩; rw [HWV.out])
                go_wp2_with fail
                refine hK.out _ _ ⟨a0, a1, a2⟩ (fun hHeld => ?_)
                clear hK K
                (try simp only [Act.put, List.setIfInBounds_toArray, List.set_cons_zero, List.set_cons_succ])
                refine wpAnyH_take (i := 29) (v := (.bool false)) (op_at rfl) (by kernel_rfl) (by kernel_rfl) (by kernel_rfl) (fun _ _ _ h => h) (Or.inl ⟨rfl, fun w hSw => ?_⟩) (by assumption) ?_
                · (try dsimp only at hSw); go_simp; try with_reducible rfl
                (try simp only [Act.put, List.setIfInBounds_toArray, List.set_cons_zero, List.set_cons_succ])
                refine wpAnyH_take (i := 30) (v := (.bool false)) (op_at rfl) (by kernel_rfl) (by kernel_rfl) (by kernel_rfl) (fun _ _ _ h => h) (Or.inl ⟨rfl, fun w hSw => ?_⟩) (by assumption) ?_
                · (try dsimp only at hSw); go_simp; try with_reducible rfl
                (try simp only [Act.put, List.setIfInBounds_toArray, List.set_cons_zero, List.set_cons_succ])
                refine wpAnyH_done (by kernel_rfl) ?_ _
                clear hHeld
                go_wp2_with fail
                have c1v : c1 = false := by rw [HC1.out]; rw [ha2, hb2, hp1]; first | rfl | (cases decide (Nm xb) <;> rfl)
                have c2v : c2 = false := by rw [HC2.out]; rw [ha2, hh1, HEB.out hb2, hb]; rw [show (xa.toList == []) = false from beq_eq_false_iff_ne.2 ha]; rfl
                have c4v : c4 = false := by rw [HC4.out]; rw [HWV.out, hw]; rfl
                have HZ : Hid (raE l i ⟨xa, xb, xw⟩ = 0) := by rw [Hid, HE0.out, c1v, c2v, c4v, ho]; rfl
                have HSX : Hid (nmsL (l.take (i + 1)) = (S0 ++ [xa])) := by
                  rw [Hid, HTK.out, show nmsR ⟨xa, xb, xw⟩ = [xa] from by unfold nmsR; rw [if_neg ha, if_pos hb]; rfl]
                  try (first | rfl | simp)
                have HF2 : Hid (errG (raE l) l (n - (i + 1)) (i + 1) = errG (raE l) l n 0) := by rw [Hid, ← HF.out, errG_step hlt HX.out, HZ.out, if_pos rfl]
                go_roundg (gk - 1)
                case measure => omega
                case rel => exact ⟨i + 1, by go_num, by omega, by rw [HSX.out]; exact HO1.out.drew, HG3.out.drew, HF2⟩
              · have gd := (Gr.refl V3).drew
                refine wp_region_held_drew (S := (fun w' => w'.cell? ⟨b, off + i * 3, none⟩ = some (.string xa) ∧ w'.cell? ⟨b, off + i * 3 + 1, none⟩ = some (.string xb) ∧ w'.cell? ⟨b, off + i * 3 + 2, none⟩ = some (.int .i64 xw))) (by kernel_rfl) ⟨gd.cell a0, gd.cell a1, gd.cell a2⟩ (fun hHeld => ?_)
                replace a0 := gd.cell a0
                replace a1 := gd.cell a1
                replace a2 := gd.cell a2
                refine wpAnyH_take (i := 0) (v := (.slice (some ⟨b, off, none⟩) n cap)) (op_at rfl) (by kernel_rfl) (by kernel_rfl) (by kernel_rfl) (fun _ _ _ h => h) (Or.inl ⟨rfl, fun w hSw => ?_⟩) (by assumption) ?_
                · (try dsimp only at hSw); go_simp; try with_reducible rfl
                (try simp only [Act.put, List.setIfInBounds_toArray, List.set_cons_zero, List.set_cons_succ])
                refine wpAnyH_take (i := 1) (v := (.int .i64 (i : Int))) (op_at rfl) (by kernel_rfl) (by kernel_rfl) (by kernel_rfl) (fun _ _ _ h => h) (Or.inl ⟨rfl, fun w hSw => ?_⟩) (by assumption) ?_
                · (try dsimp only at hSw); go_simp; try with_reducible rfl
                (try simp only [Act.put, List.setIfInBounds_toArray, List.set_cons_zero, List.set_cons_succ])
                refine wpAnyH_take (i := 2) (v := (.pointer (some ⟨b, off + i * 3, none⟩))) (op_at rfl) (by kernel_rfl) (by kernel_rfl) (by kernel_rfl) (fun _ _ _ h => h) (Or.inl ⟨rfl, fun w hSw => ?_⟩) (by assumption) ?_
                · (try dsimp only at hSw); go_simp; try with_reducible rfl
                (try simp only [Act.put, List.setIfInBounds_toArray, List.set_cons_zero, List.set_cons_succ])
                refine wpAnyH_take (i := 3) (v := (.pointer (some ⟨b, off + i * 3, none⟩))) (op_at rfl) (by kernel_rfl) (by kernel_rfl) (by kernel_rfl) (fun _ _ _ h => h) (Or.inl ⟨rfl, fun w hSw => ?_⟩) (by assumption) ?_
                · (try dsimp only at hSw); go_simp; try with_reducible rfl
                (try simp only [Act.put, List.setIfInBounds_toArray, List.set_cons_zero, List.set_cons_succ])
                refine wpAnyH_take (i := 4) (v := (.string xa)) (op_at rfl) (by kernel_rfl) (by kernel_rfl) (by kernel_rfl) (fun _ _ _ h => h) (Or.inl ⟨rfl, fun w hSw => ?_⟩) (by assumption) ?_
                · (try dsimp only at hSw); go_simp; try with_reducible rfl
                (try simp only [Act.put, List.setIfInBounds_toArray, List.set_cons_zero, List.set_cons_succ])
                refine wpAnyH_take (i := 5) (v := (.slice (some ⟨b, off, none⟩) n cap)) (op_at rfl) (by kernel_rfl) (by kernel_rfl) (by kernel_rfl) (fun _ _ _ h => h) (Or.inl ⟨rfl, fun w hSw => ?_⟩) (by assumption) ?_
                · (try dsimp only at hSw); go_simp; try with_reducible rfl
                (try simp only [Act.put, List.setIfInBounds_toArray, List.set_cons_zero, List.set_cons_succ])
                refine wpAnyH_take (i := 6) (v := (.int .i64 (i : Int))) (op_at rfl) (by kernel_rfl) (by kernel_rfl) (by kernel_rfl) (fun _ _ _ h => h) (Or.inl ⟨rfl, fun w hSw => ?_⟩) (by assumption) ?_
                · (try dsimp only at hSw); go_simp; try with_reducible rfl
                (try simp only [Act.put, List.setIfInBounds_toArray, List.set_cons_zero, List.set_cons_succ])
                refine wpAnyH_take (i := 7) (v := (.pointer (some ⟨b, off + i * 3, none⟩))) (op_at rfl) (by kernel_rfl) (by kernel_rfl) (by kernel_rfl) (fun _ _ _ h => h) (Or.inl ⟨rfl, fun w hSw => ?_⟩) (by assumption) ?_
                · (try dsimp only at hSw); go_simp; try with_reducible rfl
                (try simp only [Act.put, List.setIfInBounds_toArray, List.set_cons_zero, List.set_cons_succ])
                refine wpAnyH_take (i := 8) (v := (.pointer (some ⟨b, off + i * 3 + 1, none⟩))) (op_at rfl) (by kernel_rfl) (by kernel_rfl) (by kernel_rfl) (fun _ _ _ h => h) (Or.inl ⟨rfl, fun w hSw => ?_⟩) (by assumption) ?_
                · (try dsimp only at hSw); go_simp; try with_reducible rfl
                (try simp only [Act.put, List.setIfInBounds_toArray, List.set_cons_zero, List.set_cons_succ])
                refine wpAnyH_take (i := 9) (v := (.string xb)) (op_at rfl) (by kernel_rfl) (by kernel_rfl) (by kernel_rfl) (fun _ _ _ h => h) (Or.inl ⟨rfl, fun w hSw => ?_⟩) (by assumption) ?_
                · (try dsimp only at hSw); go_simp; try with_reducible rfl
                (try simp only [Act.put, List.setIfInBounds_toArray, List.set_cons_zero, List.set_cons_succ])
                refine wpAnyH_ready (rs := [10]) (by kernel_rfl) (by simp) (AllReadyH.cons (op_at rfl) (fun K hK => ?_) AllReadyH.nil)
                go_simp
                ((refine (HWK.out _).mono ?_); rintro e w9 ⟨rfl, rfl⟩; rw [HWV.out])
                go_wp2_with fail
                refine hK.out _ _ ⟨a0, a1, a2⟩ (fun hHeld => ?_)
                clear hK K
                (try simp only [Act.put, List.setIfInBounds_toArray, List.set_cons_zero, List.set_cons_succ])
                refine wpAnyH_take (i := 11) (v := (.bool true)) (op_at rfl) (by kernel_rfl) (by kernel_rfl) (by kernel_rfl) (fun _ _ _ h => h) (Or.inl ⟨rfl, fun w hSw => ?_⟩) (by assumption) ?_
                · (try dsimp only at hSw); go_simp; try with_reducible rfl
                (try simp only [Act.put, List.setIfInBounds_toArray, List.set_cons_zero, List.set_cons_succ])
                refine wpAnyH_take (i := 12) (v := (.bool true)) (op_at rfl) (by kernel_rfl) (by kernel_rfl) (by kernel_rfl) (fun _ _ _ h => h) (Or.inl ⟨rfl, fun w hSw => ?_⟩) (by assumption) ?_
                · (try dsimp only at hSw); go_simp; try with_reducible rfl
                (try simp only [Act.put, List.setIfInBounds_toArray, List.set_cons_zero, List.set_cons_succ])
                refine wpAnyH_take (i := 13) (v := (.slice (some ⟨b, off, none⟩) n cap)) (op_at rfl) (by kernel_rfl) (by kernel_rfl) (by kernel_rfl) (fun _ _ _ h => h) (Or.inl ⟨rfl, fun w hSw => ?_⟩) (by assumption) ?_
                · (try dsimp only at hSw); go_simp; try with_reducible rfl
                (try simp only [Act.put, List.setIfInBounds_toArray, List.set_cons_zero, List.set_cons_succ])
                refine wpAnyH_take (i := 14) (v := (.int .i64 (i : Int))) (op_at rfl) (by kernel_rfl) (by kernel_rfl) (by kernel_rfl) (fun _ _ _ h => h) (Or.inl ⟨rfl, fun w hSw => ?_⟩) (by assumption) ?_
                · (try dsimp only at hSw); go_simp; try with_reducible rfl
                (try simp only [Act.put, List.setIfInBounds_toArray, List.set_cons_zero, List.set_cons_succ])
                refine wpAnyH_take (i := 15) (v := (.pointer (some ⟨b, off + i * 3, none⟩))) (op_at rfl) (by kernel_rfl) (by kernel_rfl) (by kernel_rfl) (fun _ _ _ h => h) (Or.inl ⟨rfl, fun w hSw => ?_⟩) (by assumption) ?_
                · (try dsimp only at hSw); go_simp; try with_reducible rfl
                (try simp only [Act.put, List.setIfInBounds_toArray, List.set_cons_zero, List.set_cons_succ])
                refine wpAnyH_take (i := 16) (v := (.pointer (some ⟨b, off + i * 3 + 2, none⟩))) (op_at rfl) (by kernel_rfl) (by kernel_rfl) (by kernel_rfl) (fun _ _ _ h => h) (Or.inl ⟨rfl, fun w hSw => ?_⟩) (by assumption) ?_
                · (try dsimp only at hSw); go_simp; try with_reducible rfl
                (try simp only [Act.put, List.setIfInBounds_toArray, List.set_cons_zero, List.set_cons_succ])
                refine wpAnyH_take (i := 17) (v := (.int .i64 xw)) (op_at rfl) (by kernel_rfl) (by kernel_rfl) (by kernel_rfl) (fun _ _ _ h => h) (Or.inl ⟨rfl, fun w hSw => ?_⟩) (by assumption) ?_
                · (try dsimp only at hSw); go_simp; try with_reducible rfl
                (try simp only [Act.put, List.setIfInBounds_toArray, List.set_cons_zero, List.set_cons_succ])
                refine wpAnyH_take (i := 18) (v := (.slice (some ⟨b, off, none⟩) n cap)) (op_at rfl) (by kernel_rfl) (by kernel_rfl) (by kernel_rfl) (fun _ _ _ h => h) (Or.inl ⟨rfl, fun w hSw => ?_⟩) (by assumption) ?_
                · (try dsimp only at hSw); go_simp; try with_reducible rfl
                (try simp only [Act.put, List.setIfInBounds_toArray, List.set_cons_zero, List.set_cons_succ])
                refine wpAnyH_take (i := 19) (v := (.int .i64 (i : Int))) (op_at rfl) (by kernel_rfl) (by kernel_rfl) (by kernel_rfl) (fun _ _ _ h => h) (Or.inl ⟨rfl, fun w hSw => ?_⟩) (by assumption) ?_
                · (try dsimp only at hSw); go_simp; try with_reducible rfl
                (try simp only [Act.put, List.setIfInBounds_toArray, List.set_cons_zero, List.set_cons_succ])
                refine wpAnyH_take (i := 20) (v := (.pointer (some ⟨b, off + i * 3, none⟩))) (op_at rfl) (by kernel_rfl) (by kernel_rfl) (by kernel_rfl) (fun _ _ _ h => h) (Or.inl ⟨rfl, fun w hSw => ?_⟩) (by assumption) ?_
                · (try dsimp only at hSw); go_simp; try with_reducible rfl
                (try simp only [Act.put, List.setIfInBounds_toArray, List.set_cons_zero, List.set_cons_succ])
                refine wpAnyH_take (i := 21) (v := (.pointer (some ⟨b, off + i * 3, none⟩))) (op_at rfl) (by kernel_rfl) (by kernel_rfl) (by kernel_rfl) (fun _ _ _ h => h) (Or.inl ⟨rfl, fun w hSw => ?_⟩) (by assumption) ?_
                · (try dsimp only at hSw); go_simp; try with_reducible rfl
                (try simp only [Act.put, List.setIfInBounds_toArray, List.set_cons_zero, List.set_cons_succ])
                refine wpAnyH_take (i := 22) (v := (.string xa)) (op_at rfl) (by kernel_rfl) (by kernel_rfl) (by kernel_rfl) (fun _ _ _ h => h) (Or.inl ⟨rfl, fun w hSw => ?_⟩) (by assumption) ?_
                · (try dsimp only at hSw); go_simp; try with_reducible rfl
                (try simp only [Act.put, List.setIfInBounds_toArray, List.set_cons_zero, List.set_cons_succ])
                refine wpAnyH_take (i := 23) (v := (.slice (some ⟨b, off, none⟩) n cap)) (op_at rfl) (by kernel_rfl) (by kernel_rfl) (by kernel_rfl) (fun _ _ _ h => h) (Or.inl ⟨rfl, fun w hSw => ?_⟩) (by assumption) ?_
                · (try dsimp only at hSw); go_simp; try with_reducible rfl
                (try simp only [Act.put, List.setIfInBounds_toArray, List.set_cons_zero, List.set_cons_succ])
                refine wpAnyH_take (i := 24) (v := (.int .i64 (i : Int))) (op_at rfl) (by kernel_rfl) (by kernel_rfl) (by kernel_rfl) (fun _ _ _ h => h) (Or.inl ⟨rfl, fun w hSw => ?_⟩) (by assumption) ?_
                · (try dsimp only at hSw); go_simp; try with_reducible rfl
                (try simp only [Act.put, List.setIfInBounds_toArray, List.set_cons_zero, List.set_cons_succ])
                refine wpAnyH_take (i := 25) (v := (.pointer (some ⟨b, off + i * 3, none⟩))) (op_at rfl) (by kernel_rfl) (by kernel_rfl) (by kernel_rfl) (fun _ _ _ h => h) (Or.inl ⟨rfl, fun w hSw => ?_⟩) (by assumption) ?_
                · (try dsimp only at hSw); go_simp; try with_reducible rfl
                (try simp only [Act.put, List.setIfInBounds_toArray, List.set_cons_zero, List.set_cons_succ])
                refine wpAnyH_take (i := 26) (v := (.pointer (some ⟨b, off + i * 3 + 1, none⟩))) (op_at rfl) (by kernel_rfl) (by kernel_rfl) (by kernel_rfl) (fun _ _ _ h => h) (Or.inl ⟨rfl, fun w hSw => ?_⟩) (by assumption) ?_
                · (try dsimp only at hSw); go_simp; try with_reducible rfl
                (try simp only [Act.put, List.setIfInBounds_toArray, List.set_cons_zero, List.set_cons_succ])
                refine wpAnyH_take (i := 27) (v := (.string xb)) (op_at rfl) (by kernel_rfl) (by kernel_rfl) (by kernel_rfl) (fun _ _ _ h => h) (Or.inl ⟨rfl, fun w hSw => ?_⟩) (by assumption) ?_
                · (try dsimp only at hSw); go_simp; try with_reducible rfl
                (try simp only [Act.put, List.setIfInBounds_toArray, List.set_cons_zero, List.set_cons_succ])
                refine wpAnyH_ready (rs := [28]) (by kernel_rfl) (by simp) (AllReadyH.cons (op_at rfl) (fun K hK => ?_) AllReadyH.nil)
                go_simp
                ((refine (HWK.out _).mono ?_); rintro e w9 ⟨rfl, rfl⟩; rw [HWV.out])
                go_wp2_with fail
                refine hK.out _ _ ⟨a0, a1, a2⟩ (fun hHeld => ?_)
                clear hK K
                (try simp only [Act.put, List.setIfInBounds_toArray, List.set_cons_zero, List.set_cons_succ])
                refine wpAnyH_take (i := 29) (v := (.bool true)) (op_at rfl) (by kernel_rfl) (by kernel_rfl) (by kernel_rfl) (fun _ _ _ h => h) (Or.inl ⟨rfl, fun w hSw => ?_⟩) (by assumption) ?_
                · (try dsimp only at hSw); go_simp; try with_reducible rfl
                (try simp only [Act.put, List.setIfInBounds_toArray, List.set_cons_zero, List.set_cons_succ])
                refine wpAnyH_take (i := 30) (v := (.bool true)) (op_at rfl) (by kernel_rfl) (by kernel_rfl) (by kernel_rfl) (fun _ _ _ h => h) (Or.inl ⟨rfl, fun w hSw => ?_⟩) (by assumption) ?_
                · (try dsimp only at hSw); go_simp; try with_reducible rfl
                (try simp only [Act.put, List.setIfInBounds_toArray, List.set_cons_zero, List.set_cons_succ])
                refine wpAnyH_done (by kernel_rfl) ?_ _
                clear hHeld
                go_wp2_with fail
                have c1v : c1 = false := by rw [HC1.out]; rw [ha2, hb2, hp1]; first | rfl | (cases decide (Nm xb) <;> rfl)
                have c2v : c2 = false := by rw [HC2.out]; rw [ha2, hh1, HEB.out hb2, hb]; rw [show (xa.toList == []) = false from beq_eq_false_iff_ne.2 ha]; rfl
                have c4v : c4 = true := by rw [HC4.out]; rw [HWV.out, show (xw == 1) = false from beq_eq_false_iff_ne.2 hw]; rfl
                have HZ : Hid (raE l i ⟨xa, xb, xw⟩ = 19) := by rw [Hid, HE0.out, c1v, c2v, c4v, ho]; rfl
                have HR : Hid (racesE l = 19) := by rw [Hid, HE.out, ← HF.out, errG_step hlt HX.out, HZ.out]; rfl
                go_wp2_with fail
                go_ret
                exact ⟨by rw [HR.out]; rfl, HG3.out.drew⟩
            · refine wp_loop_rounds 3 ?_
              rw [rounds_succ]
              go_wp2_with fail
              cases hp1 : decide (Nm xa)
              · have HQ := HN1.out V1
                rw [hp1] at HQ
                refine HQ.mono ?_
                rintro e w9 ⟨rfl, rfl⟩
                clear HQ
                go_wp2_with fail
                have c1v : c1 = true := by rw [HC1.out]; rw [ha2, hb2, hp1]; first | rfl | (cases decide (Nm xb) <;> rfl)
                have HZ : Hid (raE l i ⟨xa, xb, xw⟩ = 8) := by rw [Hid, HE0.out, c1v]; rfl
                have HR : Hid (racesE l = 8) := by rw [Hid, HE.out, ← HF.out, errG_step hlt HX.out, HZ.out]; rfl
                go_wp2_with fail
                go_ret
                exact ⟨by rw [HR.out]; rfl, HG1.out⟩
              have HQ := HN1.out V1
              rw [hp1] at HQ
              refine HQ.mono ?_
              rintro e w9 ⟨rfl, rfl⟩
              clear HQ
              go_wp2_with fail
              rw [rounds_succ]
              go_wp2_with fail
              cases hp2 : decide (Nm xb)
              · have HQ := HN2.out V1
                rw [hp2] at HQ
                refine HQ.mono ?_
                rintro e w9 ⟨rfl, rfl⟩
                clear HQ
                go_wp2_with fail
                have c1v : c1 = true := by rw [HC1.out]; rw [ha2, hb2, hp1, hp2]; first | rfl | (cases decide (Nm xb) <;> rfl)
                have HZ : Hid (raE l i ⟨xa, xb, xw⟩ = 8) := by rw [Hid, HE0.out, c1v]; rfl
                have HR : Hid (racesE l = 8) := by rw [Hid, HE.out, ← HF.out, errG_step hlt HX.out, HZ.out]; rfl
                go_wp2_with fail
                go_ret
                exact ⟨by rw [HR.out]; rfl, HG1.out⟩
              have HQ := HN2.out V1
              rw [hp2] at HQ
              refine HQ.mono ?_
              rintro e w9 ⟨rfl, rfl⟩
              clear HQ
              go_wp2_with fail
              rw [rounds_succ]
              go_wp2_with fail
              refine wp_loop_rounds 3 ?_
              rw [rounds_succ]
              go_wp2_with fail
              have HQ := refHas6_c (nmAts_of_own rfl HOV1.out) (by have := HLS.out; (try simp only [List.length_append, List.length_cons, List.length_nil]); omega) xa
              cases hh1 : hasS S0 xa
              rotate_left
              · rw [hh1] at HQ
                refine HQ.mono ?_
                rintro e w9 ⟨rfl, rfl⟩
                clear HQ
                go_wp2_with fail
                have c1v : c1 = false := by rw [HC1.out]; rw [ha2, hb2, hp1, hp2]; first | rfl | (cases decide (Nm xb) <;> rfl)
                have c2v : c2 = true := by rw [HC2.out]; rw [ha2, hh1]; cases (xa.toList == xb.toList) <;> rfl
                have HZ : Hid (raE l i ⟨xa, xb, xw⟩ = 9) := by rw [Hid, HE0.out, c1v, c2v]; rfl
                have HR : Hid (racesE l = 9) := by rw [Hid, HE.out, ← HF.out, errG_step hlt HX.out, HZ.out]; rfl
                go_wp2_with fail
                go_ret
                exact ⟨by rw [HR.out]; rfl, HG1.out⟩
              rw [hh1] at HQ
              refine HQ.mono ?_
              rintro e w9 ⟨rfl, rfl⟩
              clear HQ
              have hA1 := HOV1.out.alloc (.cells #[.string xa] 9)
              go_wp2_with (at_builtin; refine wpList_append_own _ rfl _ _ 48 rfl w.heap.size 9 i0 (.string ⟨#[]⟩) 1 16 Tryz.underlying48 hi hz0 hz1 hz2 rfl (by decide) _ _ _ rfl hA1 ⟨V1.heap.size, 0, none⟩ 1 1 [.string xa] rfl rfl (cell_one6 _ _ _) (by intro u hu; simp at hu; subst hu; rfl) (by have := HLS.out; unfold maxLen; (try simp only [List.length_append, List.length_cons, List.length_nil]); omega) (by have := HLS.out; (try simp only [List.length_append, List.length_cons, List.length_nil]); omega) (by have := HG1.out.size; simp; omega) ?_; intro v1 V3 hown1 hgrow1 _)
              have HO1 : Hid (V3.ownsRow w.heap.size 9 1 v1 (S0 ++ [xa]).length (nmC (S0 ++ [xa]))) := by rw [nmC_add, List.length_append]; exact hown1
              have HG3 : Hid (Gr w V3) := Below.grown (HG1.out.alloc _) hgrow1 (by have := HG1.out.size; simp; omega) (fun q hq => (own_in HOV1.out hq).2)
              replace n1 := (World.cell?_of_block (a := ⟨Bn, 1, none⟩) (hgrow1.block Bn (by have := HSB.out; simp; omega) (fun e => by have := HLT.out Bn e.symm; omega))).trans (Gr.cell ((Gr.refl V1).alloc (.cells #[.string xa] 9)) n1)
              replace a0 := Gr.cell HG3.out B0.out
              replace a1 := Gr.cell HG3.out B1.out
              replace a2 := Gr.cell HG3.out B2.out
              clear hown1 hgrow1 hA1
              go_wp2_with fail
              rw [rounds_succ]
              go_wp2_with fail
              have HQ := refHas6_c (nmAts_of_own rfl HO1.out) (by have := HLS.out; (try simp only [List.length_append, List.length_cons, List.length_nil]); omega) xb
              cases hh2 : hasS (S0 ++ [xa]) xb
              rotate_left
              · rw [hh2] at HQ
                refine HQ.mono ?_
                rintro e w9 ⟨rfl, rfl⟩
                clear HQ
                go_wp2_with fail
                have c1v : c1 = false := by rw [HC1.out]; rw [ha2, hb2, hp1, hp2]; first | rfl | (cases decide (Nm xb) <;> rfl)
                have c2v : c2 = true := by rw [HC2.out]; rw [has_add] at hh2; rw [ha2, hh1, show (xa.toList == xb.toList) = (xb.toList == xa.toList) from Bool.beq_comm]; revert hh2; generalize hasS S0 xb = u; generalize (xb.toList == xa.toList) = v; revert u v; decide
                have HZ : Hid (raE l i ⟨xa, xb, xw⟩ = 9) := by rw [Hid, HE0.out, c1v, c2v]; rfl
                have HR : Hid (racesE l = 9) := by rw [Hid, HE.out, ← HF.out, errG_step hlt HX.out, HZ.out]; rfl
                go_wp2_with fail
                go_ret
                exact ⟨by rw [HR.out]; rfl, HG3.out⟩
              rw [hh2] at HQ
              refine HQ.mono ?_
              rintro e w9 ⟨rfl, rfl⟩
              clear HQ
              have hA2 := HO1.out.alloc (.cells #[.string xb] 9)
              go_wp2_with (at_builtin; refine wpList_append_own _ rfl _ _ 48 rfl w.heap.size 9 i0 (.string ⟨#[]⟩) 1 16 Tryz.underlying48 hi hz0 hz1 hz2 rfl (by decide) _ _ _ rfl hA2 ⟨V3.heap.size, 0, none⟩ 1 1 [.string xb] rfl rfl (cell_one6 _ _ _) (by intro u hu; simp at hu; subst hu; rfl) (by have := HLS.out; unfold maxLen; (try simp only [List.length_append, List.length_cons, List.length_nil]); omega) (by have := HLS.out; (try simp only [List.length_append, List.length_cons, List.length_nil]); omega) (by have := HG3.out.size; simp; omega) ?_; intro v2 V5 hown2 hgrow2 _)
              have HO2 : Hid (V5.ownsRow w.heap.size 9 1 v2 ((S0 ++ [xa]) ++ [xb]).length (nmC ((S0 ++ [xa]) ++ [xb]))) := by rw [nmC_add, List.length_append]; exact hown2
              have HG5 : Hid (Gr w V5) := Below.grown (HG3.out.alloc _) hgrow2 (by have := HG3.out.size; simp; omega) (fun q hq => (own_in HO1.out hq).2)
              replace a0 := Gr.cell HG5.out B0.out
              replace a1 := Gr.cell HG5.out B1.out
              replace a2 := Gr.cell HG5.out B2.out
              clear hown2 hgrow2 hA2
              go_wp2_with fail
              rw [rounds_succ]
              go_wp2_with fail
              refine (HOU.out _).mono ?_
              rintro e w9 ⟨rfl, rfl⟩
              rcases HO3.out with ho | ho
              · rw [ho]
                go_wp2_with fail
                have c1v : c1 = false := by rw [HC1.out]; rw [ha2, hb2, hp1, hp2]; first | rfl | (cases decide (Nm xb) <;> rfl)
                have c2v : c2 = false := by rw [HC2.out]; rw [has_add] at hh2; rw [ha2, hh1, show (xa.toList == xb.toList) = (xb.toList == xa.toList) from Bool.beq_comm]; revert hh2; generalize hasS S0 xb = u; generalize (xb.toList == xa.toList) = v; revert u v; decide
                have HZ : Hid (raE l i ⟨xa, xb, xw⟩ = 3) := by rw [Hid, HE0.out, c1v, c2v, ho]; rfl
                have HR : Hid (racesE l = 3) := by rw [Hid, HE.out, ← HF.out, errG_step hlt HX.out, HZ.out]; rfl
                go_wp2_with fail
                go_ret
                exact ⟨by rw [HR.out]; rfl, HG5.out⟩
              rw [ho]
              go_wp2_with fail
              have HWV : Hid (walkW xa xb = 0) := by rw [Hid, HWW, if_neg ha, if_neg hb]
              clear HWW
              have gd := (Gr.refl V5).drew
              refine wp_region_held_drew (S := (fun w' => w'.cell? ⟨b, off + i * 3, none⟩ = some (.string xa) ∧ w'.cell? ⟨b, off + i * 3 + 1, none⟩ = some (.string xb) ∧ w'.cell? ⟨b, off + i * 3 + 2, none⟩ = some (.int .i64 xw))) (by kernel_rfl) ⟨gd.cell a0, gd.cell a1, gd.cell a2⟩ (fun hHeld => ?_)
              replace a0 := gd.cell a0
              replace a1 := gd.cell a1
              replace a2 := gd.cell a2
              refine wpAnyH_take (i := 0) (v := (.slice (some ⟨b, off, none⟩) n cap)) (op_at rfl) (by kernel_rfl) (by kernel_rfl) (by kernel_rfl) (fun _ _ _ h => h) (Or.inl ⟨rfl, fun w hSw => ?_⟩) (by assumption) ?_
              · (try dsimp only at hSw); go_simp; try with_reducible rfl
              (try simp only [Act.put, List.setIfInBounds_toArray, List.set_cons_zero, List.set_cons_succ])
              refine wpAnyH_take (i := 1) (v := (.int .i64 (i : Int))) (op_at rfl) (by kernel_rfl) (by kernel_rfl) (by kernel_rfl) (fun _ _ _ h => h) (Or.inl ⟨rfl, fun w hSw => ?_⟩) (by assumption) ?_
              · (try dsimp only at hSw); go_simp; try with_reducible rfl
              (try simp only [Act.put, List.setIfInBounds_toArray, List.set_cons_zero, List.set_cons_succ])
              refine wpAnyH_take (i := 2) (v := (.pointer (some ⟨b, off + i * 3, none⟩))) (op_at rfl) (by kernel_rfl) (by kernel_rfl) (by kernel_rfl) (fun _ _ _ h => h) (Or.inl ⟨rfl, fun w hSw => ?_⟩) (by assumption) ?_
              · (try dsimp only at hSw); go_simp; try with_reducible rfl
              (try simp only [Act.put, List.setIfInBounds_toArray, List.set_cons_zero, List.set_cons_succ])
              refine wpAnyH_take (i := 3) (v := (.pointer (some ⟨b, off + i * 3, none⟩))) (op_at rfl) (by kernel_rfl) (by kernel_rfl) (by kernel_rfl) (fun _ _ _ h => h) (Or.inl ⟨rfl, fun w hSw => ?_⟩) (by assumption) ?_
              · (try dsimp only at hSw); go_simp; try with_reducible rfl
              (try simp only [Act.put, List.setIfInBounds_toArray, List.set_cons_zero, List.set_cons_succ])
              refine wpAnyH_take (i := 4) (v := (.string xa)) (op_at rfl) (by kernel_rfl) (by kernel_rfl) (by kernel_rfl) (fun _ _ _ h => h) (Or.inl ⟨rfl, fun w hSw => ?_⟩) (by assumption) ?_
              · (try dsimp only at hSw); go_simp; try with_reducible rfl
              (try simp only [Act.put, List.setIfInBounds_toArray, List.set_cons_zero, List.set_cons_succ])
              refine wpAnyH_take (i := 5) (v := (.slice (some ⟨b, off, none⟩) n cap)) (op_at rfl) (by kernel_rfl) (by kernel_rfl) (by kernel_rfl) (fun _ _ _ h => h) (Or.inl ⟨rfl, fun w hSw => ?_⟩) (by assumption) ?_
              · (try dsimp only at hSw); go_simp; try with_reducible rfl
              (try simp only [Act.put, List.setIfInBounds_toArray, List.set_cons_zero, List.set_cons_succ])
              refine wpAnyH_take (i := 6) (v := (.int .i64 (i : Int))) (op_at rfl) (by kernel_rfl) (by kernel_rfl) (by kernel_rfl) (fun _ _ _ h => h) (Or.inl ⟨rfl, fun w hSw => ?_⟩) (by assumption) ?_
              · (try dsimp only at hSw); go_simp; try with_reducible rfl
              (try simp only [Act.put, List.setIfInBounds_toArray, List.set_cons_zero, List.set_cons_succ])
              refine wpAnyH_take (i := 7) (v := (.pointer (some ⟨b, off + i * 3, none⟩))) (op_at rfl) (by kernel_rfl) (by kernel_rfl) (by kernel_rfl) (fun _ _ _ h => h) (Or.inl ⟨rfl, fun w hSw => ?_⟩) (by assumption) ?_
              · (try dsimp only at hSw); go_simp; try with_reducible rfl
              (try simp only [Act.put, List.setIfInBounds_toArray, List.set_cons_zero, List.set_cons_succ])
              refine wpAnyH_take (i := 8) (v := (.pointer (some ⟨b, off + i * 3 + 1, none⟩))) (op_at rfl) (by kernel_rfl) (by kernel_rfl) (by kernel_rfl) (fun _ _ _ h => h) (Or.inl ⟨rfl, fun w hSw => ?_⟩) (by assumption) ?_
              · (try dsimp only at hSw); go_simp; try with_reducible rfl
              (try simp only [Act.put, List.setIfInBounds_toArray, List.set_cons_zero, List.set_cons_succ])
              refine wpAnyH_take (i := 9) (v := (.string xb)) (op_at rfl) (by kernel_rfl) (by kernel_rfl) (by kernel_rfl) (fun _ _ _ h => h) (Or.inl ⟨rfl, fun w hSw => ?_⟩) (by assumption) ?_
              · (try dsimp only at hSw); go_simp; try with_reducible rfl
              (try simp only [Act.put, List.setIfInBounds_toArray, List.set_cons_zero, List.set_cons_succ])
              refine wpAnyH_ready (rs := [10]) (by kernel_rfl) (by simp) (AllReadyH.cons (op_at rfl) (fun K hK => ?_) AllReadyH.nil)
              go_simp
              ((refine (HWK.out _).mono ?_); rintro e w9 ⟨rfl, rfl⟩; rw [HWV.out])
              go_wp2_with fail
              refine hK.out _ _ ⟨a0, a1, a2⟩ (fun hHeld => ?_)
              clear hK K
              (try simp only [Act.put, List.setIfInBounds_toArray, List.set_cons_zero, List.set_cons_succ])
              refine wpAnyH_take (i := 11) (v := (.bool false)) (op_at rfl) (by kernel_rfl) (by kernel_rfl) (by kernel_rfl) (fun _ _ _ h => h) (Or.inl ⟨rfl, fun w hSw => ?_⟩) (by assumption) ?_
              · (try dsimp only at hSw); go_simp; try with_reducible rfl
              (try simp only [Act.put, List.setIfInBounds_toArray, List.set_cons_zero, List.set_cons_succ])
              refine wpAnyH_take (i := 12) (v := (.bool false)) (op_at rfl) (by kernel_rfl) (by kernel_rfl) (by kernel_rfl) (fun _ _ _ h => h) (Or.inl ⟨rfl, fun w hSw => ?_⟩) (by assumption) ?_
              · (try dsimp only at hSw); go_simp; try with_reducible rfl
              (try simp only [Act.put, List.setIfInBounds_toArray, List.set_cons_zero, List.set_cons_succ])
              refine wpAnyH_take (i := 13) (v := undef) (op_at rfl) (by kernel_rfl) (by kernel_rfl) (by kernel_rfl) (fun _ _ _ h => h) (Or.inr ⟨rfl, rfl⟩) (by assumption) ?_
              (try simp only [Act.put, List.setIfInBounds_toArray, List.set_cons_zero, List.set_cons_succ])
              refine wpAnyH_take (i := 14) (v := undef) (op_at rfl) (by kernel_rfl) (by kernel_rfl) (by kernel_rfl) (fun _ _ _ h => h) (Or.inr ⟨rfl, rfl⟩) (by assumption) ?_
              (try simp only [Act.put, List.setIfInBounds_toArray, List.set_cons_zero, List.set_cons_succ])
              refine wpAnyH_take (i := 15) (v := undef) (op_at rfl) (by kernel_rfl) (by kernel_rfl) (by kernel_rfl) (fun _ _ _ h => h) (Or.inr ⟨rfl, rfl⟩) (by assumption) ?_
              (try simp only [Act.put, List.setIfInBounds_toArray, List.set_cons_zero, List.set_cons_succ])
              refine wpAnyH_take (i := 16) (v := undef) (op_at rfl) (by kernel_rfl) (by kernel_rfl) (by kernel_rfl) (fun _ _ _ h => h) (Or.inr ⟨rfl, rfl⟩) (by assumption) ?_
              (try simp only [Act.put, List.setIfInBounds_toArray, List.set_cons_zero, List.set_cons_succ])
              refine wpAnyH_take (i := 17) (v := undef) (op_at rfl) (by kernel_rfl) (by kernel_rfl) (by kernel_rfl) (fun _ _ _ h => h) (Or.inr ⟨rfl, rfl⟩) (by assumption) ?_
              (try simp only [Act.put, List.setIfInBounds_toArray, List.set_cons_zero, List.set_cons_succ])
              refine wpAnyH_take (i := 18) (v := undef) (op_at rfl) (by kernel_rfl) (by kernel_rfl) (by kernel_rfl) (fun _ _ _ h => h) (Or.inr ⟨rfl, rfl⟩) (by assumption) ?_
              (try simp only [Act.put, List.setIfInBounds_toArray, List.set_cons_zero, List.set_cons_succ])
              refine wpAnyH_take (i := 19) (v := undef) (op_at rfl) (by kernel_rfl) (by kernel_rfl) (by kernel_rfl) (fun _ _ _ h => h) (Or.inr ⟨rfl, rfl⟩) (by assumption) ?_
              (try simp only [Act.put, List.setIfInBounds_toArray, List.set_cons_zero, List.set_cons_succ])
              refine wpAnyH_take (i := 20) (v := undef) (op_at rfl) (by kernel_rfl) (by kernel_rfl) (by kernel_rfl) (fun _ _ _ h => h) (Or.inr ⟨rfl, rfl⟩) (by assumption) ?_
              (try simp only [Act.put, List.setIfInBounds_toArray, List.set_cons_zero, List.set_cons_succ])
              refine wpAnyH_take (i := 21) (v := undef) (op_at rfl) (by kernel_rfl) (by kernel_rfl) (by kernel_rfl) (fun _ _ _ h => h) (Or.inr ⟨rfl, rfl⟩) (by assumption) ?_
              (try simp only [Act.put, List.setIfInBounds_toArray, List.set_cons_zero, List.set_cons_succ])
              refine wpAnyH_take (i := 22) (v := undef) (op_at rfl) (by kernel_rfl) (by kernel_rfl) (by kernel_rfl) (fun _ _ _ h => h) (Or.inr ⟨rfl, rfl⟩) (by assumption) ?_
              (try simp only [Act.put, List.setIfInBounds_toArray, List.set_cons_zero, List.set_cons_succ])
              refine wpAnyH_take (i := 23) (v := undef) (op_at rfl) (by kernel_rfl) (by kernel_rfl) (by kernel_rfl) (fun _ _ _ h => h) (Or.inr ⟨rfl, rfl⟩) (by assumption) ?_
              (try simp only [Act.put, List.setIfInBounds_toArray, List.set_cons_zero, List.set_cons_succ])
              refine wpAnyH_take (i := 24) (v := undef) (op_at rfl) (by kernel_rfl) (by kernel_rfl) (by kernel_rfl) (fun _ _ _ h => h) (Or.inr ⟨rfl, rfl⟩) (by assumption) ?_
              (try simp only [Act.put, List.setIfInBounds_toArray, List.set_cons_zero, List.set_cons_succ])
              refine wpAnyH_take (i := 25) (v := undef) (op_at rfl) (by kernel_rfl) (by kernel_rfl) (by kernel_rfl) (fun _ _ _ h => h) (Or.inr ⟨rfl, rfl⟩) (by assumption) ?_
              (try simp only [Act.put, List.setIfInBounds_toArray, List.set_cons_zero, List.set_cons_succ])
              refine wpAnyH_take (i := 26) (v := undef) (op_at rfl) (by kernel_rfl) (by kernel_rfl) (by kernel_rfl) (fun _ _ _ h => h) (Or.inr ⟨rfl, rfl⟩) (by assumption) ?_
              (try simp only [Act.put, List.setIfInBounds_toArray, List.set_cons_zero, List.set_cons_succ])
              refine wpAnyH_take (i := 27) (v := undef) (op_at rfl) (by kernel_rfl) (by kernel_rfl) (by kernel_rfl) (fun _ _ _ h => h) (Or.inr ⟨rfl, rfl⟩) (by assumption) ?_
              (try simp only [Act.put, List.setIfInBounds_toArray, List.set_cons_zero, List.set_cons_succ])
              refine wpAnyH_take (i := 28) (v := undef) (op_at rfl) (by kernel_rfl) (by kernel_rfl) (by kernel_rfl) (fun _ _ _ h => h) (Or.inr ⟨rfl, rfl⟩) (by assumption) ?_
              (try simp only [Act.put, List.setIfInBounds_toArray, List.set_cons_zero, List.set_cons_succ])
              refine wpAnyH_take (i := 29) (v := undef) (op_at rfl) (by kernel_rfl) (by kernel_rfl) (by kernel_rfl) (fun _ _ _ h => h) (Or.inr ⟨rfl, rfl⟩) (by assumption) ?_
              (try simp only [Act.put, List.setIfInBounds_toArray, List.set_cons_zero, List.set_cons_succ])
              refine wpAnyH_take (i := 30) (v := (.bool false)) (op_at rfl) (by kernel_rfl) (by kernel_rfl) (by kernel_rfl) (fun _ _ _ h => h) (Or.inl ⟨rfl, fun w hSw => ?_⟩) (by assumption) ?_
              · (try dsimp only at hSw); go_simp; try with_reducible rfl
              (try simp only [Act.put, List.setIfInBounds_toArray, List.set_cons_zero, List.set_cons_succ])
              refine wpAnyH_done (by kernel_rfl) ?_ _
              clear hHeld
              go_wp2_with fail
              have c1v : c1 = false := by rw [HC1.out]; rw [ha2, hb2, hp1, hp2]; first | rfl | (cases decide (Nm xb) <;> rfl)
              have c2v : c2 = false := by rw [HC2.out]; rw [has_add] at hh2; rw [ha2, hh1, show (xa.toList == xb.toList) = (xb.toList == xa.toList) from Bool.beq_comm]; revert hh2; generalize hasS S0 xb = u; generalize (xb.toList == xa.toList) = v; revert u v; decide
              have c4v : c4 = false := by rw [HC4.out]; rw [HWV.out]; rfl
              have HZ : Hid (raE l i ⟨xa, xb, xw⟩ = 0) := by rw [Hid, HE0.out, c1v, c2v, c4v, ho]; rfl
              have HSX : Hid (nmsL (l.take (i + 1)) = ((S0 ++ [xa]) ++ [xb])) := by
                rw [Hid, HTK.out, show nmsR ⟨xa, xb, xw⟩ = [xa, xb] from by unfold nmsR; rw [if_neg ha, if_neg hb]; rfl]
                try (first | rfl | simp)
              have HF2 : Hid (errG (raE l) l (n - (i + 1)) (i + 1) = errG (raE l) l n 0) := by rw [Hid, ← HF.out, errG_step hlt HX.out, HZ.out, if_pos rfl]
              go_roundg (gk - 1)
              case measure => omega
              case rel => exact ⟨i + 1, by go_num, by omega, by rw [HSX.out]; exact HO2.out.drew, HG5.out.drew, HF2⟩
          · obtain rfl : n = i := by omega
            have hlt2 : ¬ (n : Int) < (n : Int) := by omega
            have HR9 : Hid (racesE l = 0) := by rw [Hid, HE.out, ← HF.out, Nat.sub_self]; rfl
            clear hown
            go_wp2_with fail
            go_ret
            exact ⟨by rw [HR9.out]; rfl, HG.out⟩
      · rw [if_neg he] at HD
        have HDD := Lib.hid HD
        have hne : ((n : Int) != (k : Int)) = true := bne_iff_ne.2 (by omega)
        clear HD
        go_wp2_with fail
        go_ret
        exact ⟨by rw [HDD.out]; rfl, Gr.refl _⟩
end Go.Proofs.YthfmgficbnmmnaaGreatDoor
