/- Archives (chapter 10): what a vector and gaps say of an archive (plain). -/
import Derived.Test.YtnihclhhbegjhaaGreatDoorGMgD
import Derived.Test.YtnihclhhbegjhaaGreatDoorGOvY
import Derived.Deep.CutBlock
import Derived.Test.YtnihclhhbegjhaaGreatDoorGMgB
namespace Go.Proofs.YtnihclhhbegjhaaGreatDoor
open Go.RowKit Go.Lib
set_option linter.unusedSimpArgs false
set_option linter.unusedVariables false
theorem cnt_facts {d : ByteArray} : ∀ (g : List EnR) (c : Nat), Asc1 d c g → c ≤ cntN c g ∧ (∀ n : Nat, c < n → n ≤ cntN c g → ∃ e ∈ g, e.nu = (n : Int)) ∧ (∀ e ∈ g, ¬ e.nu = ((cntN c g : Nat) : Int) + 1) ∧ ((∃ e ∈ g, ((cntN c g : Nat) : Int) < e.nu) ↔ cntN c g < c + g.length)
  | [], c, _ => ⟨Nat.le_refl _, fun n h1 h2 => by simp [cntN] at h2; omega, fun e he => by (cases he), by simp [cntN]⟩
  | e :: t, c, h => by
    obtain ⟨p1, p2⟩ := List.pairwise_cons.1 h.asc
    unfold cntN
    by_cases he : e.nu = (c : Int) + 1
    · rw [if_pos he]
      have ht : Asc1 d ((c + 1 : Nat) : Int) t := ⟨fun x hx => h.desk x (List.mem_cons_of_mem _ hx), fun x hx => by have := p1 x hx; omega, p2⟩
      obtain ⟨i1, i2, i3, i4⟩ := cnt_facts t (c + 1) ht
      refine ⟨by omega, fun n h1 h2 => ?_, fun x hx => ?_, ?_⟩
      · rcases Nat.eq_or_lt_of_le (show c + 1 ≤ n by omega) with h3 | h3
        · exact ⟨e, List.mem_cons_self .., by omega⟩
        · obtain ⟨x, hx, hxn⟩ := i2 n h3 h2
          exact ⟨x, List.mem_cons_of_mem _ hx, hxn⟩
      · rcases List.mem_cons.1 hx with rfl | hx
        · omega
        · exact i3 x hx
      · rw [List.length_cons]
        constructor
        · rintro ⟨x, hx, hlt⟩
          rcases List.mem_cons.1 hx with rfl | hx
          · omega
          · have := i4.1 ⟨x, hx, hlt⟩; omega
        · intro hlt
          obtain ⟨x, hx, hlt⟩ := i4.2 (by omega)
          exact ⟨x, List.mem_cons_of_mem _ hx, hlt⟩
    · rw [if_neg he]
      have hlo := h.lo e (List.mem_cons_self ..)
      refine ⟨Nat.le_refl _, fun n h1 h2 => by omega, fun x hx => ?_, ⟨fun _ => by simp, fun _ => ⟨e, List.mem_cons_self .., by omega⟩⟩⟩
      rcases List.mem_cons.1 hx with rfl | hx
      · exact he
      · have := p1 x hx; omega
theorem grps_facts : ∀ (f : Nat) (l : List EnR), l.length ≤ f → Ord l → (∀ g ∈ grps f l, Asc1 (deskOf g) 0 g ∧ ∀ e, e ∈ g ↔ e ∈ l ∧ e.de = deskOf g) ∧ (∀ e ∈ l, ∃ g ∈ grps f l, deskOf g = e.de) ∧ (∀ g ∈ grps f l, ∃ e ∈ l, e.de = deskOf g) ∧ (grps f l).Pairwise (fun g h => ltS (deskOf g) (deskOf h) = true)
  | 0, [], _, _ => ⟨fun g hg => by (cases hg), fun e he => by (cases he), fun g hg => by (cases hg), List.Pairwise.nil⟩
  | 0, _ :: _, h, _ => by simp at h
  | f + 1, [], _, _ => ⟨fun g hg => by (cases hg), fun e he => by (cases he), fun g hg => by (cases hg), List.Pairwise.nil⟩
  | f + 1, x :: t, hl, ho => by
    have hsub : (t.dropWhile (sameD x)).Sublist (x :: t) := (List.dropWhile_sublist _).trans (List.sublist_cons_self _ _)
    have hlen : (t.dropWhile (sameD x)).length ≤ f := by have := (List.dropWhile_sublist (sameD x) (l := t)).length_le; simp at hl; omega
    obtain ⟨i1, i2, i3, i4⟩ := grps_facts f (t.dropWhile (sameD x)) hlen (ho.sub hsub)
    have hga := group_asc ho
    have hpn := post_ne ho
    have hmem : ∀ e, e ∈ x :: t ↔ e ∈ x :: t.takeWhile (sameD x) ∨ e ∈ t.dropWhile (sameD x) := fun e => by
      have h := List.takeWhile_append_dropWhile (p := sameD x) (l := t)
      constructor
      · intro he
        rcases List.mem_cons.1 he with rfl | he
        · exact .inl (List.mem_cons_self ..)
        · rw [← h] at he
          rcases List.mem_append.1 he with he | he
          · exact .inl (List.mem_cons_of_mem _ he)
          · exact .inr he
      · rintro (he | he)
        · rcases List.mem_cons.1 he with rfl | he
          · exact List.mem_cons_self ..
          · exact List.mem_cons_of_mem _ ((List.takeWhile_sublist _).subset he)
        · exact List.mem_cons_of_mem _ ((List.dropWhile_sublist _).subset he)
    have hgt : ∀ e ∈ t.dropWhile (sameD x), ltS x.de e.de = true := fun e he => by
      have hb := (List.pairwise_cons.1 ho.asc).1 e ((List.dropWhile_sublist _).subset he)
      unfold befB at hb
      have hne : (x.de.toList == e.de.toList) = false := beq_eq_false_iff_ne.2 (fun h => hpn e he h.symm)
      rw [hne] at hb
      simpa using hb
    unfold grps
    refine ⟨fun g hg => ?_, fun e he => ?_, fun g hg => ?_, List.pairwise_cons.2 ⟨fun g hg => ?_, i4⟩⟩
    · rcases List.mem_cons.1 hg with rfl | hg
      · refine ⟨hga, fun e => ⟨fun he => ⟨(hmem e).2 (.inl he), hga.desk e he⟩, fun he => ?_⟩⟩
        rcases (hmem e).1 he.1 with h | h
        · exact h
        · exact absurd (by rw [he.2]; rfl) (hpn e h)
      · obtain ⟨j1, j2⟩ := i1 g hg
        refine ⟨j1, fun e => ⟨fun he => ⟨(hmem e).2 (.inr ((j2 e).1 he).1), ((j2 e).1 he).2⟩, fun he => ?_⟩⟩
        rcases (hmem e).1 he.1 with h | h
        · obtain ⟨e', he', hd⟩ := i3 g hg
          have hne := hpn e' he'
          rw [hd, ← he.2, hga.desk e h] at hne
          exact absurd rfl hne
        · exact (j2 e).2 ⟨h, he.2⟩
    · rcases (hmem e).1 he with h | h
      · exact ⟨_, List.mem_cons_self .., (hga.desk e h).symm⟩
      · obtain ⟨g, hg, hd⟩ := i2 e h
        exact ⟨g, List.mem_cons_of_mem _ hg, hd⟩
    · rcases List.mem_cons.1 hg with rfl | hg
      · exact ⟨x, List.mem_cons_self .., rfl⟩
      · obtain ⟨e, he, hd⟩ := i3 g hg
        exact ⟨e, (hmem e).2 (.inr he), hd⟩
    · obtain ⟨e, he, hd⟩ := i3 g hg
      rw [← hd]
      exact hgt e he
structure VecF (P : List EnR) (v g : List MkR) : Prop where
  asc : v.Pairwise fun a b => ltS a.de b.de = true
  all : ∀ e ∈ P, ∃ m ∈ v, m.de = e.de
  one : ∀ m ∈ v, ∃ c : Nat, m.nu = (c : Int) ∧ (∀ n : Nat, 0 < n → n ≤ c → ∃ e ∈ P, e.de = m.de ∧ e.nu = (n : Int)) ∧ (∀ e ∈ P, e.de = m.de → ¬ e.nu = (c : Int) + 1) ∧ ∃ e ∈ P, e.de = m.de
  gasc : g.Pairwise fun a b => ltS a.de b.de = true
  gap : ∀ k, k ∈ g ↔ ∃ m ∈ v, k = ⟨m.de, m.nu + 1⟩ ∧ ∃ e ∈ P, e.de = m.de ∧ m.nu < e.nu
theorem vec_facts {P : List EnR} (h : Ord P) : VecF P (vecP P) (gapsP P) := by
  obtain ⟨i1, i2, i3, i4⟩ := grps_facts P.length P (Nat.le_refl _) h
  have key : ∀ g ∈ groups P, (∀ n : Nat, 0 < n → n ≤ cntN 0 g → ∃ e ∈ P, e.de = deskOf g ∧ e.nu = (n : Int)) ∧ (∀ e ∈ P, e.de = deskOf g → ¬ e.nu = ((cntN 0 g : Nat) : Int) + 1) ∧ (∃ e ∈ P, e.de = deskOf g) ∧ ((∃ e ∈ P, e.de = deskOf g ∧ ((cntN 0 g : Nat) : Int) < e.nu) ↔ cntN 0 g < g.length) := fun g hg => by
    obtain ⟨j1, j2⟩ := i1 g hg
    obtain ⟨_, k2, k3, k4⟩ := cnt_facts g 0 j1
    refine ⟨fun n h1 h2 => ?_, fun e he hd => k3 e ((j2 e).2 ⟨he, hd⟩), i3 g hg, ?_⟩
    · obtain ⟨e, he, hn⟩ := k2 n h1 h2
      exact ⟨e, ((j2 e).1 he).1, ((j2 e).1 he).2, hn⟩
    · rw [Nat.zero_add] at k4
      rw [← k4]
      exact ⟨fun ⟨e, he, hd, hl⟩ => ⟨e, (j2 e).2 ⟨he, hd⟩, hl⟩, fun ⟨e, he, hl⟩ => ⟨e, ((j2 e).1 he).1, ((j2 e).1 he).2, hl⟩⟩
  refine ⟨?_, fun e he => ?_, fun m hm => ?_, ?_, fun k => ?_⟩
  · unfold vecP
    rw [List.pairwise_map]
    exact i4
  · obtain ⟨g, hg, hd⟩ := i2 e he
    exact ⟨vecG g, List.mem_map_of_mem hg, hd⟩
  · obtain ⟨g, hg, rfl⟩ := List.mem_map.1 hm
    obtain ⟨k1, k2, k3, _⟩ := key g hg
    exact ⟨cntN 0 g, rfl, k1, k2, k3⟩
  · unfold gapsP
    have : ∀ gs : List (List EnR), gs.Pairwise (fun g h => ltS (deskOf g) (deskOf h) = true) → (gs.flatMap gapG).Pairwise fun a b => ltS a.de b.de = true := by
      intro gs
      induction gs with
      | nil => intro _; simp
      | cons g gs ih =>
        intro hp
        obtain ⟨q1, q2⟩ := List.pairwise_cons.1 hp
        rw [List.flatMap_cons]
        refine List.pairwise_append.2 ⟨?_, ih q2, fun a ha b hb => ?_⟩
        · unfold gapG
          split
          · exact List.pairwise_singleton _ _
          · exact List.Pairwise.nil
        · obtain ⟨g', hg', hb'⟩ := List.mem_flatMap.1 hb
          unfold gapG at ha hb'
          split at ha
          · split at hb'
            · rw [List.mem_singleton] at ha hb'
              subst ha hb'
              exact q1 g' hg'
            · cases hb'
          · cases ha
    exact this _ i4
  · unfold gapsP
    rw [List.mem_flatMap]
    constructor
    · rintro ⟨g, hg, hk⟩
      unfold gapG at hk
      split at hk
      · rename_i hlt
        rw [List.mem_singleton] at hk
        obtain ⟨e, he, hd, hl⟩ := (key g hg).2.2.2.2 hlt
        exact ⟨vecG g, List.mem_map_of_mem hg, hk, e, he, hd, hl⟩
      · cases hk
    · rintro ⟨m, hm, hk, e, he, hd, hl⟩
      obtain ⟨g, hg, rfl⟩ := List.mem_map.1 hm
      refine ⟨g, hg, ?_⟩
      unfold gapG
      rw [if_pos ((key g hg).2.2.2.1 ⟨e, he, hd, hl⟩), List.mem_singleton]
      exact hk
theorem asc_injM {v : List MkR} (h : v.Pairwise fun a b => ltS a.de b.de = true) {a b : MkR} (ha : a ∈ v) (hb : b ∈ v) (e : a.de = b.de) : a = b := by
  obtain ⟨i, hi⟩ := List.mem_iff_getElem?.1 ha
  obtain ⟨j, hj⟩ := List.mem_iff_getElem?.1 hb
  obtain ⟨p1, p2⟩ := List.getElem?_eq_some_iff.1 hi
  obtain ⟨p3, p4⟩ := List.getElem?_eq_some_iff.1 hj
  rcases Nat.lt_trichotomy i j with hl | hl | hl
  · have hb := List.pairwise_iff_getElem.1 h i j p1 p3 hl
    rw [p2, p4, e, ltS_irr] at hb; cases hb
  · subst hl; rw [p2] at p4; exact p4
  · have hb := List.pairwise_iff_getElem.1 h j i p3 p1 hl
    rw [p2, p4, e, ltS_irr] at hb; cases hb
theorem lastN_at {v : List MkR} (h : v.Pairwise fun a b => ltS a.de b.de = true) {m : MkR} (hm : m ∈ v) : lastN v m.de = m.nu := by
  have key : ∀ (v : List MkR) (n : Int), v.Pairwise (fun a b => ltS a.de b.de = true) → (∀ a ∈ v, ¬ a.de = m.de) → v.foldl (fun n m' => if (m'.de.toList == m.de.toList) = true then m'.nu else n) n = n := by
    intro v
    induction v with
    | nil => intro n _ _; rfl
    | cons a v ih =>
      intro n hp hn
      rw [List.foldl_cons]
      have : ¬ (a.de.toList == m.de.toList) = true := fun h2 => hn a (List.mem_cons_self ..) (baI (beq_iff_eq.1 h2))
      rw [if_neg this]
      exact ih n (List.pairwise_cons.1 hp).2 (fun b hb => hn b (List.mem_cons_of_mem _ hb))
  have key2 : ∀ (v : List MkR) (n : Int), v.Pairwise (fun a b => ltS a.de b.de = true) → m ∈ v → v.foldl (fun n m' => if (m'.de.toList == m.de.toList) = true then m'.nu else n) n = m.nu := by
    intro v
    induction v with
    | nil => intro n _ hm; cases hm
    | cons a v ih =>
      intro n hp hm
      obtain ⟨q1, q2⟩ := List.pairwise_cons.1 hp
      rw [List.foldl_cons]
      rcases List.mem_cons.1 hm with rfl | hm
      · rw [if_pos (beq_self_eq_true _)]
        exact key v _ q2 (fun b hb e => by have := q1 b hb; rw [e, ltS_irr] at this; cases this)
      · exact ih _ q2 hm
  exact key2 v 0 h hm
theorem lastN_none {v : List MkR} {d : ByteArray} (h : ∀ m ∈ v, ¬ m.de = d) : lastN v d = 0 := by
  have key : ∀ (v : List MkR) (n : Int), (∀ a ∈ v, ¬ a.de = d) → v.foldl (fun n m' => if (m'.de.toList == d.toList) = true then m'.nu else n) n = n := by
    intro v
    induction v with
    | nil => intro n _; rfl
    | cons a v ih =>
      intro n hn
      rw [List.foldl_cons]
      have : ¬ (a.de.toList == d.toList) = true := fun h2 => hn a (List.mem_cons_self ..) (baI (beq_iff_eq.1 h2))
      rw [if_neg this]
      exact ih n (fun b hb => hn b (List.mem_cons_of_mem _ hb))
  exact key v 0 h
theorem sync_all {l P : List EnR} (ho : Ord l) (hs : P.Sublist l) : mrgE P (lackL l (vecP P)) = l := by
  have hP := ho.sub hs
  have hv := vec_facts hP
  have hL : (lackL l (vecP P)).Sublist l := List.filter_sublist
  obtain ⟨h1, h2⟩ := mrgE_facts _ P (lackL l (vecP P)) (Nat.le_refl _) hP.asc (ho.asc.sublist hL)
  refine asc_uniqE _ _ h1 ho.asc fun z => ?_
  rw [h2]
  constructor
  · rintro (h | h)
    · exact hs.subset h
    · exact hL.subset h.1
  · intro hz
    by_cases hlk : lastN (vecP P) z.de < z.nu
    · by_cases hp : z ∈ P
      · exact .inl hp
      · refine .inr ⟨List.mem_filter.2 ⟨hz, decide_eq_true hlk⟩, noM.2 fun w hw e => hp ?_⟩
        have := asc_inj ho.asc (hs.subset hw) hz e.1 e.2
        rw [← this]; exact hw
    · refine .inl ?_
      have hz1 := ho.lo z hz
      have hex : ∃ m ∈ vecP P, m.de = z.de := by
        refine Classical.byContradiction fun hn => hlk ?_
        rw [lastN_none (fun m hm e => hn ⟨m, hm, e⟩)]
        omega
      obtain ⟨m, hm, hd⟩ := hex
      rw [← hd, lastN_at hv.asc hm] at hlk
      obtain ⟨c, hc, k1, _⟩ := hv.one m hm
      obtain ⟨w, hw, hwd, hwn⟩ := k1 z.nu.toNat (by omega) (by omega)
      have := asc_inj ho.asc (hs.subset hw) hz (by rw [hwd, hd]) (by rw [hwn]; omega)
      rw [← this]; exact hw
end Go.Proofs.YtnihclhhbegjhaaGreatDoor
namespace Go.Proofs.YtnihclhhbegjhaaGreatDoor
open Go.RowKit Go.Lib
set_option linter.unusedSimpArgs false
set_option linter.unusedVariables false
theorem entry_parts {e : EnR} (h : enErr e = 0) : nmE e.de = 0 ∧ 1 ≤ e.nu ∧ e.nu ≤ 1000 := by
  have o1 : ∀ n lo hi : Int, outE n lo hi = 0 → lo ≤ n ∧ n ≤ hi := fun n lo hi h => by
    unfold outE at h
    by_cases hb : outB n lo hi = true
    · rw [hb] at h; simp at h
    · unfold outB at hb
      simp at hb
      omega
  unfold enErr entryE at h
  unfold firstE at h
  by_cases h1 : nmE e.de = 0
  · rw [if_pos h1] at h
    unfold firstE at h
    by_cases h2 : outE e.nu 1 1000 = 0
    · exact ⟨h1, o1 _ _ _ h2⟩
    · rw [if_neg h2] at h; exact absurd h h2
  · rw [if_neg h1] at h; exact absurd h h1
theorem outE_in {n lo hi : Int} (h1 : lo ≤ n) (h2 : n ≤ hi) : outE n lo hi = 0 := by
  unfold outE outB
  have a : ¬ n < lo := by omega
  have b : ¬ hi < n := by omega
  simp [a, b]
theorem vec_zero {P : List EnR} (h : archE P = 0) : vecE (vecP P) = 0 := by
  obtain ⟨ho, he⟩ := arch_ord h
  have hv := vec_facts ho
  unfold vecE
  refine errG_zeroM (fun i m hm => ?_) _ _
  have hmv : m ∈ vecP P := List.mem_of_getElem? hm
  obtain ⟨c, hc, k1, _, e, hee, hed⟩ := hv.one m hmv
  have hn := (entry_parts (he e hee)).1
  rw [hed] at hn
  have hhi : m.nu ≤ 1000 := by
    rcases Nat.eq_zero_or_pos c with h0 | h0
    · omega
    · obtain ⟨w, hw, _, hwn⟩ := k1 c h0 (Nat.le_refl _)
      have := (entry_parts (he w hw)).2.2
      omega
  unfold mkE
  have hl : lateE (vecP P) i m = false := by
    cases i with
    | zero => rfl
    | succ j =>
      unfold lateE
      obtain ⟨p3, p4⟩ := List.getElem?_eq_some_iff.1 hm
      have p1 : j < (vecP P).length := by omega
      simp only [List.getElem?_eq_getElem p1]
      have hb := List.pairwise_iff_getElem.1 hv.asc j (j + 1) p1 p3 (by omega)
      rw [p4] at hb
      unfold lateB
      rw [hb]; rfl
  rw [hn, hl, outE_in (by omega) hhi]
  rfl
theorem look_pr {α : Type} (f : MkR → α) : ∀ (v : List MkR), v.Pairwise (fun a b => ltS a.de b.de = true) → ∀ m ∈ v, lookG (v.map fun m => (m.de, f m)) m.de = some (f m)
  | [], _, m, hm => by cases hm
  | a :: v, hp, m, hm => by
    obtain ⟨q1, q2⟩ := List.pairwise_cons.1 hp
    unfold lookG
    rw [List.map_cons, List.find?_cons]
    rcases List.mem_cons.1 hm with rfl | hm
    · simp
    · have hne : (a.de.toList == m.de.toList) = false := beq_eq_false_iff_ne.2 (fun e => by
        have := q1 m hm
        rw [ltS_eq e] at this; cases this)
      simp only [hne]
      exact look_pr f v q2 m hm
theorem look_pr_none {α : Type} (f : MkR → α) {v : List MkR} {d : ByteArray} (h : ∀ m ∈ v, ¬ m.de = d) : lookG (v.map fun m => (m.de, f m)) d = none := by
  unfold lookG
  rw [Option.map_eq_none_iff, List.find?_eq_none]
  intro p hp he
  obtain ⟨m, hm, rfl⟩ := List.mem_map.1 hp
  exact h m hm (baI (beq_iff_eq.1 he))
theorem put_new {α : Type} : ∀ (ks : List (ByteArray × α)) (k : ByteArray) (u : α), lookG ks k = none → putG ks k u = ks ++ [(k, u)]
  | [], k, u, _ => rfl
  | p :: r, k, u, h => by
    unfold lookG at h
    rw [Option.map_eq_none_iff, List.find?_cons] at h
    unfold putG
    cases hp : (p.1.toList == k.toList)
    · rw [hp] at h
      have := put_new r k u (by unfold lookG; rw [Option.map_eq_none_iff]; exact h)
      simp [this]
    · rw [hp] at h; simp at h
theorem put_pr {α : Type} (f : MkR → α) {v : List MkR} (hp : v.Pairwise fun a b => ltS a.de b.de = true) {i : Nat} {m : MkR} (hm : v[i]? = some m) : putG ((v.take i).map fun m => (m.de, f m)) m.de (f m) = (v.take (i + 1)).map fun m => (m.de, f m) := by
  rw [List.take_add_one, hm]
  have hn : lookG ((v.take i).map fun m => (m.de, f m)) m.de = none := look_pr_none f (fun a ha e => by
    obtain ⟨j, hj⟩ := List.mem_iff_getElem?.1 ha
    have hjl := (List.getElem?_eq_some_iff.1 hj).1
    rw [List.length_take] at hjl
    have hji : j < i := by omega
    rw [List.getElem?_take_of_lt hji] at hj
    obtain ⟨p1, p2⟩ := List.getElem?_eq_some_iff.1 hj
    obtain ⟨p3, p4⟩ := List.getElem?_eq_some_iff.1 hm
    have hb := List.pairwise_iff_getElem.1 hp j i p1 p3 hji
    rw [p2, p4, e, ltS_irr] at hb
    cases hb)
  rw [put_new _ _ _ hn]
  simp
theorem gap_at {P : List EnR} {v g : List MkR} (h : VecF P v g) {m : MkR} (hm : m ∈ v) : ((lookG (g.map fun m => (m.de, m.nu)) m.de).getD 0 = m.nu + 1 ∧ ∃ e ∈ P, e.de = m.de ∧ m.nu < e.nu) ∨ ((lookG (g.map fun m => (m.de, m.nu)) m.de).getD 0 = 0 ∧ ¬ ∃ e ∈ P, e.de = m.de ∧ m.nu < e.nu) := by
  by_cases hx : ∃ e ∈ P, e.de = m.de ∧ m.nu < e.nu
  · left
    have hk : (⟨m.de, m.nu + 1⟩ : MkR) ∈ g := (h.gap _).2 ⟨m, hm, rfl, hx⟩
    have := look_pr (fun m => m.nu) g h.gasc _ hk
    exact ⟨by rw [this]; rfl, hx⟩
  · right
    have hn : ∀ k ∈ g, ¬ k.de = m.de := fun k hk e => by
      obtain ⟨m', hm', rfl, hx'⟩ := (h.gap k).1 hk
      have := asc_injM h.asc hm' hm e
      subst this
      exact hx hx'
    exact ⟨by rw [look_pr_none (fun m => m.nu) hn]; rfl, hx⟩
end Go.Proofs.YtnihclhhbegjhaaGreatDoor
namespace Go.Proofs.YtnihclhhbegjhaaGreatDoor
open Go.RowKit Go.Lib
set_option linter.unusedSimpArgs false
set_option linter.unusedVariables false
end Go.Proofs.YtnihclhhbegjhaaGreatDoor
namespace Go.Proofs.YtnihclhhbegjhaaGreatDoor
open Go.RowKit Go.Lib
set_option linter.unusedSimpArgs false
set_option linter.unusedVariables false
end Go.Proofs.YtnihclhhbegjhaaGreatDoor
namespace Go.Proofs.YtnihclhhbegjhaaGreatDoor
open Go.RowKit Go.Lib
set_option linter.unusedSimpArgs false
set_option linter.unusedVariables false
structure RetFi (e : Ending) (l : List EnR) (y : EnR) : Prop where
  mk' ::
  out : (lookM l y = none ∧ e = .returned (.int .i64 (-1))) ∨ ∃ (k : Nat) (x : EnR), e = .returned (.int .i64 (k : Int)) ∧ l[k]? = some x ∧ lookM l y = some x
theorem look_at {l : List EnR} {y x : EnR} {k : Nat} (hx : l[k]? = some x) (h1 : ∀ (j : Nat) (z : EnR), j < k → l[j]? = some z → smk y z = false) (h2 : smk y x = true) : lookM l y = some x := by
  unfold lookM
  rw [List.find?_eq_some_iff_getElem]
  obtain ⟨p, e⟩ := List.getElem?_eq_some_iff.1 hx
  refine ⟨h2, k, p, e, fun j hj => ?_⟩
  rw [h1 j _ hj (List.getElem?_eq_getElem (by omega))]; rfl
theorem look_none {l : List EnR} {y : EnR} (h : ∀ (j : Nat) (z : EnR), l[j]? = some z → smk y z = false) : lookM l y = none := by
  unfold lookM
  rw [List.find?_eq_none]
  intro x hx
  obtain ⟨j, hj⟩ := List.mem_iff_getElem?.1 hx
  rw [h j x hj]; simp
set_option maxHeartbeats 4000000 in
set_option maxRecDepth 100000 in
theorem find_c {w : World} {q : Option Addr} {l : List EnR} {n c : Nat} (y : EnR) (hn : n = l.length) (h1 : n ≤ 1000) (hr : EnS w q l) :
    Calls Tryz.prog 36 #[.slice q n c, .string y.de, .int .i64 y.nu] w fun e w' => RetFi e l y ∧ Gr w w' := by
  have HN := Lib.hid hn
  have HR := Lib.hid hr.out
  clear hn hr
  go_enter Tryz.func36, Tryz.ntmps36
  go_wp2_with fail
  go_loopg [7] n (fun gk s7 wr => ∃ i : Nat, s7 = .int .i64 (i : Int) ∧ gk + i = n ∧ Hid (∀ j z, j < i → l[j]? = some z → smk y z = false) ∧ Hid (Gr w wr))
  case atStart => exact ⟨0, rfl, by omega, fun j z hj => by omega, Gr.refl _⟩
  case round =>
    obtain ⟨i, rfl, hgk, HJ, HG⟩ := hrel
    by_cases hlt : i < n
    · obtain ⟨x, hx⟩ : ∃ x, l[i]? = some x := ⟨l[i]'(by have := HN.out; omega), List.getElem?_eq_getElem _⟩
      obtain ⟨b, off, rfl, hc⟩ := HR.out (by have := HN.out; omega)
      obtain ⟨a0, a1, a2, a3, a4, a5, a6, _⟩ := (hc i x hx).gr HG.out
      have hlt2 : (i : Int) < (n : Int) := by omega
      have HX := Lib.hid hx
      have HQ : Hid ((x.de.toList == y.de.toList) = true ↔ x.de = y.de) := baEq
      clear hx hc
      have HJS : Hid (smk y x = false → ∀ j z, j < i + 1 → l[j]? = some z → smk y z = false) := fun h0 j z hj hz => by
        rcases Nat.lt_or_ge j i with h | h
        · exact HJ.out j z h hz
        · obtain rfl : j = i := by omega
          rw [HX.out] at hz; cases hz; exact h0
      have hfalse : ∀ P : Prop, (smk y x = true → False) → smk y x = false := fun _ h => by cases hh : smk y x with | false => rfl | true => exact (h hh).elim
      cases hq : (x.de.toList == y.de.toList)
      · rw [hq] at HQ
        have HJ2 := Lib.hid (HJS.out (hfalse True (fun h => by have := HQ.out.2 (smk_iff.1 h).1.symm; cases this)))
        clear hfalse HJS HQ
        go_wp2_with fail
        go_roundg (gk - 1)
        case measure => omega
        case rel => exact ⟨i + 1, by go_num, by omega, HJ2.out, HG⟩
      · rw [hq] at HQ
        have HDE : Hid (x.de = y.de) := HQ.out.1 rfl
        by_cases hu : x.nu = y.nu
        · have hu1 : (x.nu == y.nu) = true := beq_iff_eq.2 hu
          have HLK : Hid (lookM l y = some x) := look_at HX.out HJ.out (smk_iff.2 ⟨HDE.out.symm, hu.symm⟩)
          clear hfalse HJS HQ hu
          go_wp2_with fail
          go_ret
          exact ⟨⟨.inr ⟨i, x, rfl, HX.out, HLK.out⟩⟩, HG.out⟩
        · have hu1 : (x.nu == y.nu) = false := beq_eq_false_iff_ne.2 hu
          have HJ2 := Lib.hid (HJS.out (hfalse True (fun h => hu (smk_iff.1 h).2.symm)))
          clear hfalse HJS HQ hu
          go_wp2_with fail
          go_roundg (gk - 1)
          case measure => omega
          case rel => exact ⟨i + 1, by go_num, by omega, HJ2.out, HG⟩
    · obtain rfl : n = i := by omega
      have hlt2 : ¬ (n : Int) < (n : Int) := by omega
      have HLK : Hid (lookM l y = none) := look_none (fun j z hz => HJ.out j z (by have := (List.getElem?_eq_some_iff.1 hz).1; have := HN.out; omega) hz)
      go_wp2_with fail
      go_ret
      exact ⟨⟨.inl ⟨HLK.out, rfl⟩⟩, HG.out⟩
end Go.Proofs.YtnihclhhbegjhaaGreatDoor
namespace Go.Proofs.YtnihclhhbegjhaaGreatDoor
open Go.RowKit Go.Lib
set_option linter.unusedSimpArgs false
set_option linter.unusedVariables false
open Classical in
noncomputable def mrgX (a c : List EnR) : Int := if firstE [archE a, archE c] = 0 then (if (∃ y ∈ c, conP a y) then 29 else if archE (mrgE a c) = 0 then 0 else if archE (mrgE a c) = 5 then 5 else 29) else firstE [archE a, archE c]
noncomputable def mrgR (a c : List EnR) : List EnR := if mrgX a c = 0 then mrgE a c else []
theorem mrgX_cases {a c : List EnR} (he : firstE [archE a, archE c] = 0) : ((∃ y ∈ c, conP a y) → mrgX a c = 29) ∧ ((¬ ∃ y ∈ c, conP a y) → archE (mrgE a c) = 0 → mrgX a c = 0) ∧ ((¬ ∃ y ∈ c, conP a y) → archE (mrgE a c) = 5 → mrgX a c = 5) ∧ ((¬ ∃ y ∈ c, conP a y) → ¬ archE (mrgE a c) = 0 → ¬ archE (mrgE a c) = 5 → mrgX a c = 29) := by
  unfold mrgX
  rw [if_pos he]
  refine ⟨fun h => by rw [if_pos h], fun h h0 => by rw [if_neg h, if_pos h0], fun h h5 => by rw [if_neg h, if_neg (by omega), if_pos h5], fun h h0 h5 => by rw [if_neg h, if_neg h0, if_neg h5]⟩
theorem mrgR_cases (a c : List EnR) : (mrgX a c = 0 → mrgR a c = mrgE a c) ∧ (¬ mrgX a c = 0 → mrgR a c = []) := by
  unfold mrgR
  exact ⟨fun h => by rw [if_pos h], fun h => by rw [if_neg h]⟩
structure RetMU (e : Ending) (w' : World) (L : List EnR) (A : Int) : Prop where
  mk' ::
  out : ∃ q n c es, e = .returned (.tuple #[.agg #[.slice q n c], .int .i64 A]) ∧ Hid (n = es.length) ∧ Hid (es.map ek = L.map ek) ∧ EnS w' q es ∧ (n ≤ c ∧ c ≤ maxLen)
theorem few_mrg {a c : List EnR} (wa : Few a) (wc : Few c) : Few (mrgE a c) := fun e he => by
  rcases mrgE_sub he with h | h
  · exact wa e h
  · exact wc e h
theorem few_ek {es L : List EnR} (h : es.map ek = L.map ek) (hL : Few L) : Few es := fun e he x hx => by
  have h1 : ek e ∈ L.map ek := by rw [← h]; exact List.mem_map_of_mem he
  obtain ⟨f, hf, hfe⟩ := List.mem_map.1 h1
  obtain ⟨_, _, _, _, _, _, h7⟩ := ek_parts.1 hfe
  have h2 : rk x ∈ f.xs.map rk := by rw [h7]; exact List.mem_map_of_mem hx
  obtain ⟨y, hy, hyx⟩ := List.mem_map.1 h2
  have h3 : y.xs = x.xs := congrArg (fun z => z.2.2) hyx
  rw [← h3]; exact hL f hf y hy
theorem fit_of {w : World} {q : Option Addr} {l : List EnR} (h : archE l = 0) (hr : EnS w q l) (hf : Few l) : Fit l := fun e he => ⟨by have := arch_few h e he; have := hr.lens e he; omega, fun x hx => by have := hf e he x hx; omega⟩
set_option maxHeartbeats 4000000 in
set_option maxRecDepth 100000 in
theorem merge_err {w : World} {pa pc : Option Addr} {a c : List EnR} {ma mc ka kc : Nat} (hma : ma = a.length) (hmc : mc = c.length) (h1 : ma + mc ≤ 1000) (hka : ma ≤ ka ∧ ka ≤ maxLen) (hkc : mc ≤ kc ∧ kc ≤ maxLen) (ha : EnS w pa a) (hc : EnS w pc c) (wa : Few a) (wc : Few c) (he : firstE [archE a, archE c] ≠ 0) :
    Calls Tryz.prog 14 #[.agg #[.slice pa ma ka], .agg #[.slice pc mc kc]] w fun e w' => RetMU e w' (mrgR a c) (mrgX a c) ∧ Gr w w' := by
  have HC1 := Lib.hid (fun V (g : Gr w V) => checkArch_c (cap := ka) hma (by omega) (ha.gr g) wa)
  have HC2 := Lib.hid (fun V (g : Gr w V) => checkArch_c (cap := kc) hmc (by omega) (hc.gr g) wc)
  have HFI := Lib.hid (fun b cap w => first_two (archE a) (archE c) b cap w)
  have HX : Hid (mrgX a c = firstE [archE a, archE c]) := by rw [Hid]; unfold mrgX; rw [if_neg he]
  have HR : Hid (mrgR a c = []) := (mrgR_cases a c).2 (by rw [HX.out]; exact he)
  have hz : (firstE [archE a, archE c] != 0) = true := bne_iff_ne.2 he
  generalize mrgX a c = X at *
  generalize mrgR a c = RR at *
  generalize firstE [archE a, archE c] = z at *
  generalize archE a = z1 at *
  generalize archE c = z2 at *
  clear hma hmc ha hc wa wc he hka hkc h1
  obtain ⟨W1, hW1, g1, a0⟩ := box1 w (.slice pa ma ka) 24
  obtain ⟨W2, hW2, g2, a1⟩ := box1 W1 (.slice pc mc kc) 24
  obtain ⟨W3, hW3, g3, a2⟩ := box1 W2 (.slice none 0 0) 24
  have hs1 : W1.heap.size = w.heap.size + 1 := by rw [← hW1]; simp
  have hs2 : W2.heap.size = w.heap.size + 1 + 1 := by rw [← hW2]; simp [hs1]
  have hb3 : W3.heap[W2.heap.size]? = some (.cells #[.slice none 0 0] 24 (0, 0)) := by rw [← hW3]; exact heap_alloc_new W2 _
  rw [hs1] at a1
  rw [hs2] at hb3
  rw [← hW1] at hW2
  rw [← hW2] at hW3
  obtain ⟨P1, hP1⟩ : ∃ P, w.heap.size = P := ⟨_, rfl⟩
  obtain ⟨P3, hP3⟩ : ∃ P, w.heap.size + 1 + 1 = P := ⟨_, rfl⟩
  have hx3 : w.heap.size ≤ P3 := by omega
  rw [hP3] at hb3
  have HA0 := Lib.hid (g3.cell (g2.cell a0))
  have HA1 := Lib.hid (g3.cell a1)
  have HB3 := Lib.hid hb3
  have HG3 := Lib.hid ((g1.trans g2).trans g3)
  have HW := Lib.hid hW3
  have HP3 := Lib.hid hP3
  clear hW1 hW2 hW3 hs1 hs2 a0 a1 a2 g1 g2 g3 hb3 hP1 hP3
  go_enter Tryz.func14, Tryz.ntmps14
  go_wp2_with fail
  rw [HW.out]
  try rw [HP3.out]
  clear HW
  obtain ⟨WQ, hWQ⟩ : ∃ V, V = W3 := ⟨_, rfl⟩
  have gQ : Gr W3 WQ := by rw [hWQ]; exact Gr.refl _
  rw [← hWQ]
  clear hWQ
  go_upto_region 1 with fail
  refine wp_region_held_drew (S := fun U => Gr W3 U) (by kernel_rfl) (gQ.trans (Gr.refl _).drew) (fun hHeld => ?_)
  have gD := gQ.trans (Gr.refl WQ).drew
  generalize WQ.drew = VD at *
  refine wpAnyH_take (i := 0) (v := (.agg #[.slice pa ma ka])) (op_at rfl) (by kernel_rfl) (by kernel_rfl) (by kernel_rfl) (fun _ _ _ h => h) (Or.inl ⟨rfl, fun U hSw => ?_⟩) (by assumption) ?_
  · have hs9 : Gr W3 U := hSw; have q0 := hs9.cell HA0.out; go_simp; try with_reducible rfl
  (try simp only [Act.put, tz0, tz1, tz2])
  refine wpAnyH_take (i := 2) (v := (.agg #[.slice pc mc kc])) (op_at rfl) (by kernel_rfl) (by kernel_rfl) (by kernel_rfl) (fun _ _ _ h => h) (Or.inl ⟨rfl, fun U hSw => ?_⟩) (by assumption) ?_
  · have hs9 : Gr W3 U := hSw; have q0 := hs9.cell HA1.out; go_simp; try with_reducible rfl
  (try simp only [Act.put, tz0, tz1, tz2])
  refine wpAnyH_ready (rs := [1]) (by kernel_rfl) (by simp) ((AllReadyH.cons (op_at rfl) (fun K hK => ?_) AllReadyH.nil))
  go_simp
  refine (HC1.out _ (HG3.out.trans gD)).mono ?_
  rintro e V1 ⟨rfl, hg⟩
  go_wp2_with fail
  have g1 := gD.trans hg
  clear hg
  refine hK.out _ _ g1 (fun hHeld => ?_)
  clear hK K
  (try simp only [Act.put, tz0, tz1, tz2])
  refine wpAnyH_ready (rs := [3]) (by kernel_rfl) (by simp) ((AllReadyH.cons (op_at rfl) (fun K hK => ?_) AllReadyH.nil))
  go_simp
  refine (HC2.out _ (HG3.out.trans g1)).mono ?_
  rintro e V2 ⟨rfl, hg⟩
  go_wp2_with fail
  have g2 := g1.trans hg
  clear hg
  refine hK.out _ _ g2 (fun hHeld => ?_)
  clear hK K
  (try simp only [Act.put, tz0, tz1, tz2])
  refine wpAnyH_ready (rs := [4]) (by kernel_rfl) (by simp) ((AllReadyH.cons (op_at rfl) (fun K hK => ?_) AllReadyH.nil))
  go_simp
  obtain ⟨V3, hV3, gA, q0, q1⟩ := box2v V2 (.int .i64 z1) (.int .i64 z2) 37
  rw [hV3]
  have g3 := g2.trans gA
  clear gA hV3
  refine hK.out _ _ g3 (fun hHeld => ?_)
  clear hK K
  (try simp only [Act.put, tz0, tz1, tz2])
  refine wpAnyH_ready (rs := [5]) (by kernel_rfl) (by simp) ((AllReadyH.cons (op_at rfl) (fun K hK => ?_) AllReadyH.nil))
  go_simp
  refine (HFI.out _ _ V3 q0 q1).mono ?_
  rintro e V4 ⟨rfl, rfl⟩
  go_wp2_with fail
  refine hK.out _ _ g3 (fun hHeld => ?_)
  clear hK K q0 q1
  (try simp only [Act.put, tz0, tz1, tz2])
  refine wpAnyH_take (i := 6) (v := (.int .i64 z)) (op_at rfl) (by kernel_rfl) (by kernel_rfl) (by kernel_rfl) (fun _ _ _ h => h) (Or.inl ⟨rfl, fun U hSw => ?_⟩) (by assumption) ?_
  · go_simp; try with_reducible rfl
  (try simp only [Act.put, tz0, tz1, tz2])
  refine wpAnyH_done (by kernel_rfl) ?_ _
  have hbz := Gr.block g3 HB3.out
  have z0 := cells1_ofO hbz
  have f2 : ∀ o, V3.frozen? ⟨P3, o, none⟩ = false := fun o => frozen_of_row _ _ o _ _ hbz
  have HBZ := Lib.hid hbz
  have HGE := Lib.hid (HG3.out.trans g3)
  clear hbz
  go_wp2_with fail
  have y0 := cells1_ofO (set1O HBZ.out (.slice none 0 0))
  refine bodyPost_ret (v := .tuple #[.agg #[.slice none 0 0], .int .i64 z]) (by simp [results, Tryz.results14, go_sem, y0]) rfl ⟨⟨none, 0, 0, [], by rw [HX.out], rfl, by rw [Hid, HR.out], en_nil _, Nat.le_refl _, by unfold maxLen; omega⟩, ?_⟩
  exact Below.setCell HGE.out (by show w.heap.size ≤ P3; omega) _
set_option maxHeartbeats 4000000 in
set_option maxRecDepth 100000 in
theorem merge_ok {w : World} {pa pc : Option Addr} {a c : List EnR} {ma mc ka kc : Nat} (hma : ma = a.length) (hmc : mc = c.length) (h1 : ma + mc ≤ 1000) (hka : ma ≤ ka ∧ ka ≤ maxLen) (hkc : mc ≤ kc ∧ kc ≤ maxLen) (ha : EnS w pa a) (hc : EnS w pc c) (fa : Fit a) (fc : Fit c) (wa : Few a) (wc : Few c) (he : firstE [archE a, archE c] = 0) :
    Calls Tryz.prog 14 #[.agg #[.slice pa ma ka], .agg #[.slice pc mc kc]] w fun e w' => RetMU e w' (mrgR a c) (mrgX a c) ∧ Gr w w' := by
  have ha0 : archE a = 0 := by
    rw [firstE_two] at he
    by_cases h2 : archE a = 0
    · exact h2
    · rw [if_neg h2] at he; exact he
  have HC1 := Lib.hid (fun V (g : Gr w V) => checkArch_c (cap := ka) hma (by omega) (ha.gr g) wa)
  have HC2 := Lib.hid (fun V (g : Gr w V) => checkArch_c (cap := kc) hmc (by omega) (hc.gr g) wc)
  have HFI := Lib.hid (fun b cap w => first_two (archE a) (archE c) b cap w)
  rw [he] at HFI
  have HCO := Lib.hid (fun V (g : Gr w V) => contra_c (ka := ka) (kc := kc) hma hmc (by omega) (by omega) (ha.gr g) (hc.gr g) fa (AscE.of_arch ha0))
  have HWI := Lib.hid (fun V (g : Gr w V) => with_c hma hmc h1 hka hkc (ha.gr g) (hc.gr g) fa fc)
  have hlenM := mrgE_len_le a c
  have HLM : Hid ((mrgE a c).length ≤ 1000) := by rw [Hid]; omega
  have HFM := Lib.hid (few_mrg wa wc)
  have HXE := Lib.hid (mrgX_cases he)
  have HRE := Lib.hid (mrgR_cases a c)
  generalize mrgX a c = X at *
  generalize mrgR a c = RR at *
  generalize mrgE a c = M at *
  generalize (∃ y ∈ c, conP a y) = PP at *
  generalize hz1 : archE a = z1 at HC1 HFI
  generalize hz2 : archE c = z2 at HC2 HFI
  clear hz1 hz2 ha0 hlenM
  clear hma hmc ha hc fa fc wa wc he hka hkc h1
  obtain ⟨W1, hW1, g1, a0⟩ := box1 w (.slice pa ma ka) 24
  obtain ⟨W2, hW2, g2, a1⟩ := box1 W1 (.slice pc mc kc) 24
  obtain ⟨W3, hW3, g3, a2⟩ := box1 W2 (.slice none 0 0) 24
  have hs1 : W1.heap.size = w.heap.size + 1 := by rw [← hW1]; simp
  have hs2 : W2.heap.size = w.heap.size + 1 + 1 := by rw [← hW2]; simp [hs1]
  have hb3 : W3.heap[W2.heap.size]? = some (.cells #[.slice none 0 0] 24 (0, 0)) := by rw [← hW3]; exact heap_alloc_new W2 _
  rw [hs1] at a1
  rw [hs2] at hb3
  rw [← hW1] at hW2
  rw [← hW2] at hW3
  obtain ⟨P1, hP1⟩ : ∃ P, w.heap.size = P := ⟨_, rfl⟩
  obtain ⟨P3, hP3⟩ : ∃ P, w.heap.size + 1 + 1 = P := ⟨_, rfl⟩
  have hx3 : w.heap.size ≤ P3 := by omega
  rw [hP3] at hb3
  have HA0 := Lib.hid (g3.cell (g2.cell a0))
  have HA1 := Lib.hid (g3.cell a1)
  have HB3 := Lib.hid hb3
  have HG3 := Lib.hid ((g1.trans g2).trans g3)
  have HW := Lib.hid hW3
  have HP3 := Lib.hid hP3
  clear hW1 hW2 hW3 hs1 hs2 a0 a1 a2 g1 g2 g3 hb3 hP1 hP3
  go_enter Tryz.func14, Tryz.ntmps14
  go_wp2_with fail
  rw [HW.out]
  try rw [HP3.out]
  clear HW
  obtain ⟨WQ, hWQ⟩ : ∃ V, V = W3 := ⟨_, rfl⟩
  have gQ : Gr W3 WQ := by rw [hWQ]; exact Gr.refl _
  rw [← hWQ]
  clear hWQ
  go_upto_region 1 with fail
  refine wp_region_held_drew (S := fun U => Gr W3 U) (by kernel_rfl) (gQ.trans (Gr.refl _).drew) (fun hHeld => ?_)
  have gD := gQ.trans (Gr.refl WQ).drew
  generalize WQ.drew = VD at *
  refine wpAnyH_take (i := 0) (v := (.agg #[.slice pa ma ka])) (op_at rfl) (by kernel_rfl) (by kernel_rfl) (by kernel_rfl) (fun _ _ _ h => h) (Or.inl ⟨rfl, fun U hSw => ?_⟩) (by assumption) ?_
  · have hs9 : Gr W3 U := hSw; have q0 := hs9.cell HA0.out; go_simp; try with_reducible rfl
  (try simp only [Act.put, tz0, tz1, tz2])
  refine wpAnyH_take (i := 2) (v := (.agg #[.slice pc mc kc])) (op_at rfl) (by kernel_rfl) (by kernel_rfl) (by kernel_rfl) (fun _ _ _ h => h) (Or.inl ⟨rfl, fun U hSw => ?_⟩) (by assumption) ?_
  · have hs9 : Gr W3 U := hSw; have q0 := hs9.cell HA1.out; go_simp; try with_reducible rfl
  (try simp only [Act.put, tz0, tz1, tz2])
  refine wpAnyH_ready (rs := [1]) (by kernel_rfl) (by simp) ((AllReadyH.cons (op_at rfl) (fun K hK => ?_) AllReadyH.nil))
  go_simp
  refine (HC1.out _ (HG3.out.trans gD)).mono ?_
  rintro e V1 ⟨rfl, hg⟩
  go_wp2_with fail
  have g1 := gD.trans hg
  clear hg
  refine hK.out _ _ g1 (fun hHeld => ?_)
  clear hK K
  (try simp only [Act.put, tz0, tz1, tz2])
  refine wpAnyH_ready (rs := [3]) (by kernel_rfl) (by simp) ((AllReadyH.cons (op_at rfl) (fun K hK => ?_) AllReadyH.nil))
  go_simp
  refine (HC2.out _ (HG3.out.trans g1)).mono ?_
  rintro e V2 ⟨rfl, hg⟩
  go_wp2_with fail
  have g2 := g1.trans hg
  clear hg
  refine hK.out _ _ g2 (fun hHeld => ?_)
  clear hK K
  (try simp only [Act.put, tz0, tz1, tz2])
  refine wpAnyH_ready (rs := [4]) (by kernel_rfl) (by simp) ((AllReadyH.cons (op_at rfl) (fun K hK => ?_) AllReadyH.nil))
  go_simp
  obtain ⟨V3, hV3, gA, q0, q1⟩ := box2v V2 (.int .i64 z1) (.int .i64 z2) 37
  rw [hV3]
  have g3 := g2.trans gA
  clear gA hV3
  refine hK.out _ _ g3 (fun hHeld => ?_)
  clear hK K
  (try simp only [Act.put, tz0, tz1, tz2])
  refine wpAnyH_ready (rs := [5]) (by kernel_rfl) (by simp) ((AllReadyH.cons (op_at rfl) (fun K hK => ?_) AllReadyH.nil))
  go_simp
  refine (HFI.out _ _ V3 q0 q1).mono ?_
  rintro e V4 ⟨rfl, rfl⟩
  go_wp2_with fail
  refine hK.out _ _ g3 (fun hHeld => ?_)
  clear hK K q0 q1
  (try simp only [Act.put, tz0, tz1, tz2])
  refine wpAnyH_take (i := 6) (v := (.int .i64 0)) (op_at rfl) (by kernel_rfl) (by kernel_rfl) (by kernel_rfl) (fun _ _ _ h => h) (Or.inl ⟨rfl, fun U hSw => ?_⟩) (by assumption) ?_
  · go_simp; try with_reducible rfl
  (try simp only [Act.put, tz0, tz1, tz2])
  refine wpAnyH_done (by kernel_rfl) ?_ _
  have a0 := g3.cell HA0.out
  have a1 := g3.cell HA1.out
  go_wp2_with fail
  refine (HCO.out _ (HG3.out.trans g3)).mono ?_
  rintro e V4 ⟨⟨b, rfl, hb⟩, hg⟩
  have HB := Lib.hid hb.out
  have g4 := g3.trans hg
  clear hb hg a0 a1 g3 HCO
  cases b
  · have HNP : Hid (¬ PP) := fun h => by have := HB.out.2 h; cases this
    have a0 := g4.cell HA0.out
    have a1 := g4.cell HA1.out
    go_wp2_with fail
    refine (HWI.out _ (HG3.out.trans g4)).mono ?_
    rintro e V5 ⟨⟨q, n, k, es, rfl, hn, hek, hown, hcp, hcc⟩, hg⟩
    have HGA := Lib.hid (archE_ek hek.out)
    have HFE := Lib.hid (few_ek hek.out HFM.out)
    have hlen : n ≤ 1000 := by have h1 := map_len hek.out; have h2 := hn.out; have h3 := HLM.out; omega
    have hP3 : P3 < V4.heap.size := (Array.getElem?_eq_some_iff.1 (Gr.block g4 HB3.out)).1
    have HP4 := Lib.hid hP3
    have g5 := g4.trans hg
    obtain ⟨V6, hV6, g6, c0⟩ := box1 V5 (.slice q n k) 24
    have hown6 := own_kept hown g6
    have hcp6 : ∀ f ∈ es, CpS V6 V4.heap.size f.p f.n f.cap f.xs := fun f hf => (hcp f hf).gr g6
    have HOW := Lib.hid hown6
    have HCP := Lib.hid hcp6
    have HCE := Lib.hid (fun U (k9 : Gr V6 U) => checkArch_c (cap := k) hn.out hlen ((en_of_own hown6 hn.out hcp6).gr k9) HFE.out)
    rw [HGA.out] at HCE
    have HV6 := Lib.hid hV6
    have G6 := g5.trans g6
    have HN := Lib.hid hn.out
    have HEK := Lib.hid hek.out
    clear hn hek hown hcp hg g5 g6 hV6 hown6 hcp6 a0 a1 g4 HWI HGA
    obtain ⟨P7, hP7⟩ : ∃ P, V5.heap.size = P := ⟨_, rfl⟩
    rw [hP7] at c0
    have HP7 := Lib.hid hP7
    clear hP7
    generalize archE M = R at *
    go_wp2_with fail
    rw [HV6.out]
    rw [HP7.out]
    clear HV6 HP7
    go_wp2_with fail
    refine (HCE.out _ (Gr.refl _)).mono ?_
    rintro e V7 ⟨rfl, hg⟩
    replace c0 := hg.cell c0
    have g7 := G6.trans hg
    have HOW7 := Lib.hid (own_kept HOW.out hg)
    have HCP7 := Lib.hid (fun f hf => (HCP.out f hf).gr hg)
    clear hg G6 HCE HOW HCP
    by_cases hR0 : R = 0
    · subst hR0
      have HX : Hid (X = 0) := HXE.out.2.1 HNP.out rfl
      have HRR : Hid (RR = M) := HRE.out.1 HX.out
      clear HXE HRE
      have hbz := Gr.block g7 HB3.out
      have z0 := cells1_ofO hbz
      have f2 : ∀ o, V7.frozen? ⟨P3, o, none⟩ = false := fun o => frozen_of_row _ _ o _ _ hbz
      have HBZ := Lib.hid hbz
      have HGE := Lib.hid (HG3.out.trans g7)
      clear hbz
      go_wp2_with fail
      have y0 := cells1_ofO (set1O HBZ.out (.slice q n k))
      refine bodyPost_ret (v := .tuple #[.agg #[.slice q n k], .int .i64 0]) (by simp [results, Tryz.results14, go_sem, y0]) rfl ⟨⟨q, n, k, es, by rw [HX.out], HN, by rw [Hid, HRR.out]; exact HEK.out, en_of_own (own_set_low HOW7.out HP4.out) HN.out (fun f hf => (HCP7.out f hf).set_low _ _ HP4.out), hcc⟩, ?_⟩
      exact Below.setCell HGE.out (by show w.heap.size ≤ P3; omega) _
    · by_cases hR5 : R = 5
      · subst hR5
        have HX : Hid (X = 5) := HXE.out.2.2.1 HNP.out rfl
        have HR : Hid (RR = []) := HRE.out.2 (by rw [HX.out]; omega)
        clear HXE HRE hR0
        have hbz := Gr.block g7 HB3.out
        have z0 := cells1_ofO hbz
        have f2 : ∀ o, V7.frozen? ⟨P3, o, none⟩ = false := fun o => frozen_of_row _ _ o _ _ hbz
        have HBZ := Lib.hid hbz
        have HGE := Lib.hid (HG3.out.trans g7)
        clear hbz
        go_wp2_with fail
        have y0 := cells1_ofO (set1O HBZ.out (.slice none 0 0))
        refine bodyPost_ret (v := .tuple #[.agg #[.slice none 0 0], .int .i64 5]) (by simp [results, Tryz.results14, go_sem, y0]) rfl ⟨⟨none, 0, 0, [], by rw [HX.out], rfl, by rw [Hid, HR.out], en_nil _, Nat.le_refl _, by unfold maxLen; omega⟩, ?_⟩
        exact Below.setCell HGE.out (by show w.heap.size ≤ P3; omega) _
      · have HX : Hid (X = 29) := HXE.out.2.2.2 HNP.out hR0 hR5
        have HR : Hid (RR = []) := HRE.out.2 (by rw [HX.out]; omega)
        have hr0 : (R == 0) = false := beq_eq_false_iff_ne.2 hR0
        have hr5 : (R == 5) = false := beq_eq_false_iff_ne.2 hR5
        clear HXE HRE hR0 hR5
        have hbz := Gr.block g7 HB3.out
        have z0 := cells1_ofO hbz
        have f2 : ∀ o, V7.frozen? ⟨P3, o, none⟩ = false := fun o => frozen_of_row _ _ o _ _ hbz
        have HBZ := Lib.hid hbz
        have HGE := Lib.hid (HG3.out.trans g7)
        clear hbz
        go_wp2_with fail
        have y0 := cells1_ofO (set1O HBZ.out (.slice none 0 0))
        refine bodyPost_ret (v := .tuple #[.agg #[.slice none 0 0], .int .i64 29]) (by simp [results, Tryz.results14, go_sem, y0]) rfl ⟨⟨none, 0, 0, [], by rw [HX.out], rfl, by rw [Hid, HR.out], en_nil _, Nat.le_refl _, by unfold maxLen; omega⟩, ?_⟩
        exact Below.setCell HGE.out (by show w.heap.size ≤ P3; omega) _
  · have HYP : Hid PP := HB.out.1 rfl
    have HX : Hid (X = 29) := HXE.out.1 HYP.out
    have HR : Hid (RR = []) := HRE.out.2 (by rw [HX.out]; omega)
    clear HXE HRE
    have hbz := Gr.block g4 HB3.out
    have z0 := cells1_ofO hbz
    have f2 : ∀ o, V4.frozen? ⟨P3, o, none⟩ = false := fun o => frozen_of_row _ _ o _ _ hbz
    have HBZ := Lib.hid hbz
    have HGE := Lib.hid (HG3.out.trans g4)
    clear hbz
    go_wp2_with fail
    have y0 := cells1_ofO (set1O HBZ.out (.slice none 0 0))
    refine bodyPost_ret (v := .tuple #[.agg #[.slice none 0 0], .int .i64 29]) (by simp [results, Tryz.results14, go_sem, y0]) rfl ⟨⟨none, 0, 0, [], by rw [HX.out], rfl, by rw [Hid, HR.out], en_nil _, Nat.le_refl _, by unfold maxLen; omega⟩, ?_⟩
    exact Below.setCell HGE.out (by show w.heap.size ≤ P3; omega) _
theorem merge_c {w : World} {pa pc : Option Addr} {a c : List EnR} {ma mc ka kc : Nat} (hma : ma = a.length) (hmc : mc = c.length) (h1 : ma + mc ≤ 1000) (hka : ma ≤ ka ∧ ka ≤ maxLen) (hkc : mc ≤ kc ∧ kc ≤ maxLen) (ha : EnS w pa a) (hc : EnS w pc c) (wa : Few a) (wc : Few c) :
    Calls Tryz.prog 14 #[.agg #[.slice pa ma ka], .agg #[.slice pc mc kc]] w fun e w' => RetMU e w' (mrgR a c) (mrgX a c) ∧ Gr w w' := by
  by_cases he : firstE [archE a, archE c] = 0
  · have h2 := he
    rw [firstE_two] at h2
    by_cases h3 : archE a = 0
    · rw [if_pos h3] at h2
      have h4 : archE c = 0 := by split at h2 <;> assumption
      exact merge_ok hma hmc h1 hka hkc ha hc (fit_of h3 ha wa) (fit_of h4 hc wc) wa wc he
    · rw [if_neg h3] at h2; exact absurd h2 h3
  · exact merge_err hma hmc h1 hka hkc ha hc wa wc he
end Go.Proofs.YtnihclhhbegjhaaGreatDoor
