/- Archives (chapter 10): the library's sort of at most twelve entries. -/
import Derived.Shelf.SlSortCmp.InsertionK
import Derived.Test.YtnihclhhbegjhaaGreatDoorOsD
namespace Go.Proofs.YtnihclhhbegjhaaGreatDoor
open Go.RowKit Go.Lib
set_option linter.unusedSimpArgs false
set_option linter.unusedVariables false
instance inhEnS : Inhabited EnR := ⟨⟨⟨#[]⟩, 0, 0, ⟨#[]⟩, 0, ⟨#[]⟩, none, 0, 0, []⟩⟩
open Go.Shelf Go.Proofs in
def laysE_ren : Go.Shelf.Ren := ⟨fun | 20 => 219 | n => n, fun | 22 => 22 | 24 => 77 | 25 => 189 | 3 => 3 | 0 => 0 | 4 => 4 | n => n, fun | n => n⟩
theorem laysE : Go.Proofs.SlLaysF0.n20 Tryz.prog laysE_ren := {
  mixed := by kernel_rfl
  f20 := ⟨Tryz.f219.name, by decide, Tryz.func219.trans (congrArg some (by kernel_rfl))⟩
  t0 := Tryz.underlying0
  a0 := Tryz.isAgg0
  z0 := Tryz.sizeOf0
  v0 := Tryz.zeroValue0
  t3 := Tryz.underlying3
  a3 := Tryz.isAgg3
  z3 := Tryz.sizeOf3
  v3 := Tryz.zeroValue3
  t4 := Tryz.underlying4
  a4 := Tryz.isAgg4
  z4 := Tryz.sizeOf4
  v4 := Tryz.zeroValue4
  t22 := Tryz.underlying22
  a22 := Tryz.isAgg22
  z22 := Tryz.sizeOf22
  v22 := Tryz.zeroValue22
  t25 := Tryz.underlying189
  a25 := Tryz.isAgg189
  z25 := Tryz.sizeOf189
  v25 := Tryz.zeroValue189 }
open Go.Sort Go.Shelf in
theorem grownBy_sortedK {α : Type} [Inhabited α] (enc : α → List Value) (k : Nat) {w : World} {g n : Nat} {os : Array Obj} (d : Array α) : w.grownBy (sortWorldK enc k w g 0 n d os) (some g) := by
  unfold sortWorldK
  refine ⟨rfl, rfl, rfl, by simp [putRowK], fun j hj hne => ?_⟩
  rw [heap_grow_old _ _ (by simpa [putRowK] using hj)]
  have : g ≠ j := fun e => hne (by rw [e])
  simp [putRowK, putRow, mapBlock, Sort.ahead, Array.getElem?_modify, this]
open Go.Sort Go.Shelf in
theorem flat_en (d : Array EnR) (t : Nat) (ht : t < d.size * 7) : (flatK enC 7 d)[t]! = ((enCs d.toList)[t]?).getD default := by
  rw [get_flatK enC 7 d t ht]
  have hq : t / 7 < d.size := by omega
  have h := enCs_at (xs := d.toList) (i := t / 7) (x := d[t / 7]!) (by rw [Array.getElem?_toList, getElem!_pos d _ hq]; exact Array.getElem?_eq_getElem hq) (t % 7) (by omega)
  rw [show t / 7 * 7 + t % 7 = t by omega] at h
  rw [h]
  have hm : t % 7 < 7 := by omega
  generalize t % 7 = r at *
  match r, hm with
  | 0, _ => rfl
  | 1, _ => rfl
  | 2, _ => rfl
  | 3, _ => rfl
  | 4, _ => rfl
  | 5, _ => rfl
  | 6, _ => rfl
open Go.Sort Go.Shelf in
theorem holdsK_en {w : World} {base : Nat} {v : Value} {ps : List EnR} {T : TypeId} (h : w.ownsRow base T 7 v ps.length (enCs ps)) (h0 : 0 < ps.length) :
    ∃ g cap, v = .slice (some ⟨g, 0, none⟩) ps.length cap ∧ base ≤ g ∧ g < w.heap.size ∧ HoldsK enC 7 w g 0 ps.toArray := by
  have hh := h
  rcases h.2 with ⟨rfl, h0'⟩ | ⟨g, cap, cur, rfl, hb, hcur, hle, hmx, _, _⟩
  · omega
  · have hlt := (Array.getElem?_eq_some_iff.1 hcur).1
    refine ⟨g, cap, rfl, hb, hlt, fun t ht => ⟨?_, by simp [World.frozen?, hcur]⟩⟩
    rw [size_flatK] at ht
    have ht' : t < (enCs ps).length := by rw [enCs_len]; simpa using ht
    rw [flat_en _ t ht]
    have e : (⟨g, 0, none⟩ : Addr).add t = ⟨g, t, none⟩ := by unfold Addr.add; split <;> simp_all
    have c := hh.cells (g := g) rfl t _ (List.getElem?_eq_getElem ht')
    rw [e] at c
    rw [Nat.zero_add, c]
    simp [List.getElem?_eq_getElem ht']
open Go.Sort Go.Shelf in
/-- entries as the sort leaves them -/
def srtE (ps : List EnR) : List EnR := (Sort.insertionSort (ltOf ckO) ps.toArray 0 ps.length).toList
open Go.Sort Go.Shelf in
theorem srtE_spec (ps : List EnR) : (srtE ps).Perm ps ∧ (srtE ps).length = ps.length ∧ (srtE ps).Pairwise ckLe := by
  obtain ⟨hp, hso⟩ := insertionSort_holds swo_ck ps.toArray 0 ps.length (Nat.zero_le _) (by simp)
  have hsz : (Sort.insertionSort (ltOf ckO) ps.toArray 0 ps.length).size = ps.length := by rw [hp.1]; simp
  refine ⟨?_, by unfold srtE; rw [Array.length_toList, hsz], ?_⟩
  · have h3 := hp.2.2
    rw [show (Sort.insertionSort (ltOf ckO) ps.toArray 0 ps.length).extract 0 ps.length = Sort.insertionSort (ltOf ckO) ps.toArray 0 ps.length by
      have := hsz; generalize Sort.insertionSort (ltOf ckO) ps.toArray 0 ps.length = q at *; rw [← this]; simp, show ps.toArray.extract 0 ps.length = ps.toArray by simp] at h3
    simpa [srtE] using h3
  · rw [List.pairwise_iff_getElem]
    intro i j hi hj hij
    unfold srtE at hi hj ⊢
    rw [Array.length_toList] at hi hj
    have := hso i j (Nat.zero_le _) hij (by omega)
    rw [getElem!_pos _ i hi, getElem!_pos _ j hj] at this
    simpa [ckLe] using this
open Go.Sort Go.Shelf in
theorem enterE : ∀ (args : Array Value) (w : World), (callFunc 111 args).run Tryz.prog w = .ok (.enter 111 args) w := enters_of Tryz.func111 (by kernel_rfl) rfl
theorem one_enC (x : EnR) : ∀ v ∈ enC x, v.oneCell' = true := one_seven _ _ _ _ _ _ _ _ _
open Go.Sort Go.Shelf in
theorem insE_c (blk off cap : Nat) (d : Array EnR) (w : World) (hl : CmpLays Tryz.prog 111 #[] enC 7 ckO blk off d.size w) (hH : HoldsK enC 7 w blk off d) (hb : blk < w.heap.size) (hn : d.size ≤ 12) :
    Calls Tryz.prog 219 #[.slice (some ⟨blk, off, none⟩) d.size cap, .int .i64 0, .int .i64 d.size, .func (.func 111) #[] #[]] w fun e w' =>
      e = .returned (.tuple #[]) ∧ ∃ n os, w' = sortWorldK enC 7 w blk off n (Sort.insertionSort (ltOf ckO) d 0 d.size) os := by
  have := AnyQ.insertionSortCmpFunc laysE 7 Tryz.isAgg77 Tryz.sizeOf77 enC (fun _ => rfl) one_enC ckO 111 #[] blk off cap 0 d.size d w enterE hl hH hb (Nat.zero_le _) (Nat.le_refl _) (by omega)
  exact this
theorem insE_0 (p : Option Addr) (cap : Nat) (f : Value) (w : World) :
    Calls Tryz.prog 219 #[.slice p 0 cap, .int .i64 0, .int .i64 0, f] w fun e w' => e = .returned (.tuple #[]) ∧ w' = w := by
  go_enter Tryz.func219, Tryz.ntmps219
  go_wp2_with fail
  refine wp_loop_rounds 2 ?_
  rw [rounds_succ]
  go_wp2_with fail
  go_end0
  exact ⟨rfl, rfl⟩
theorem byte_getD (b : ByteArray) (i : Nat) (h : i < b.size) : b[i] = (b.data.toList[i]?).getD 0 := by
  have h' : i < b.data.toList.length := by simpa using h
  rw [List.getElem?_eq_getElem h']
  rfl
/-- how many digits to the base 2 -/
def bl (d : Int) : Int := if d < 1 then 0 else if d < 2 then 1 else if d < 4 then 2 else if d < 8 then 3 else if d < 16 then 4 else if d < 32 then 5 else 6
set_option maxHeartbeats 1000000 in
set_option maxRecDepth 100000 in
theorem len64_c (d : Int) (hd : 0 ≤ d ∧ d ≤ 63) (w : World) :
    Calls Tryz.prog 181 #[.int .u64 d] w fun e w' => e = .returned (.int .i64 (bl d)) ∧ w = w' := by
  obtain ⟨b, hb⟩ : ∃ b, b = bl d := ⟨_, rfl⟩
  rw [← hb]
  have HB := Lib.hid hb
  clear hb
  go_enter Tryz.func181, Tryz.ntmps181
  go_wp2_with fail
  go_ret
  refine ⟨?_, rfl⟩
  rw [HB.out]
  clear HB
  change Ending.returned (.int .i64 _) = Ending.returned (.int .i64 _)
  refine congrArg (fun z => Ending.returned (Value.int .i64 z)) ?_
  rw [byte_getD]
  have hc : d = 0 ∨ d = 1 ∨ d = 2 ∨ d = 3 ∨ d = 4 ∨ d = 5 ∨ d = 6 ∨ d = 7 ∨ d = 8 ∨ d = 9 ∨ d = 10 ∨ d = 11 ∨ d = 12 ∨ d = 13 ∨ d = 14 ∨ d = 15 ∨ d = 16 ∨ d = 17 ∨ d = 18 ∨ d = 19 ∨ d = 20 ∨ d = 21 ∨ d = 22 ∨ d = 23 ∨ d = 24 ∨ d = 25 ∨ d = 26 ∨ d = 27 ∨ d = 28 ∨ d = 29 ∨ d = 30 ∨ d = 31 ∨ d = 32 ∨ d = 33 ∨ d = 34 ∨ d = 35 ∨ d = 36 ∨ d = 37 ∨ d = 38 ∨ d = 39 ∨ d = 40 ∨ d = 41 ∨ d = 42 ∨ d = 43 ∨ d = 44 ∨ d = 45 ∨ d = 46 ∨ d = 47 ∨ d = 48 ∨ d = 49 ∨ d = 50 ∨ d = 51 ∨ d = 52 ∨ d = 53 ∨ d = 54 ∨ d = 55 ∨ d = 56 ∨ d = 57 ∨ d = 58 ∨ d = 59 ∨ d = 60 ∨ d = 61 ∨ d = 62 ∨ d = 63 := by omega
  rcases hc with rfl | rfl | rfl | rfl | rfl | rfl | rfl | rfl | rfl | rfl | rfl | rfl | rfl | rfl | rfl | rfl | rfl | rfl | rfl | rfl | rfl | rfl | rfl | rfl | rfl | rfl | rfl | rfl | rfl | rfl | rfl | rfl | rfl | rfl | rfl | rfl | rfl | rfl | rfl | rfl | rfl | rfl | rfl | rfl | rfl | rfl | rfl | rfl | rfl | rfl | rfl | rfl | rfl | rfl | rfl | rfl | rfl | rfl | rfl | rfl | rfl | rfl | rfl | rfl
  all_goals (clear hd; decide +kernel)
set_option maxRecDepth 100000 in
theorem len_c (d : Int) (hd : 0 ≤ d ∧ d ≤ 63) (w : World) :
    Calls Tryz.prog 119 #[.int .u64 d] w fun e w' => e = .returned (.int .i64 (bl d)) ∧ w = w' := by
  have HL := Lib.hid (fun W => len64_c d hd W)
  generalize bl d = b at *
  go_enter Tryz.func119, Tryz.ntmps119
  go_wp2_with fail
  refine (HL.out _).mono ?_
  rintro e w4 ⟨rfl, rfl⟩
  go_wp2_with fail
  go_ret
  exact ⟨rfl, rfl⟩
open Go.Sort Go.Shelf in
set_option maxHeartbeats 1000000 in
set_option maxRecDepth 100000 in
theorem pdqE_c (blk off cap : Nat) (d : Array EnR) (lim : Int) (w : World) (hl : CmpLays Tryz.prog 111 #[] enC 7 ckO blk off d.size w) (hH : HoldsK enC 7 w blk off d) (hb : blk < w.heap.size) (hn : d.size ≤ 12) :
    Calls Tryz.prog 168 #[.slice (some ⟨blk, off, none⟩) d.size cap, .int .i64 0, .int .i64 d.size, .int .i64 lim, .func (.func 111) #[] #[]] w fun e w' =>
      e = .returned (.tuple #[]) ∧ ∃ n os, w' = sortWorldK enC 7 w blk off n (Sort.insertionSort (ltOf ckO) d 0 d.size) os := by
  have HI := Lib.hid (insE_c blk off cap d w hl hH hb hn)
  clear hl hH hb
  generalize Sort.insertionSort (ltOf ckO) d 0 d.size = dd at *
  generalize d.size = n at *
  have h2 : (decide ((n : Int) ≤ 12)) = true := decide_eq_true (by omega)
  have h1 : ((n : Int) ≤ 12) := by omega
  have hw : IntKind.i64.wrap (n : Int) = n := by rw [IntKind.wrap_i64]; omega
  clear hn
  go_enter Tryz.func168, Tryz.ntmps168
  go_wp2_with fail
  refine wp_loop_rounds 2 ?_
  rw [rounds_succ]
  go_wp2_with fail
  refine HI.out.mono ?_
  rintro e w4 ⟨rfl, HW⟩
  go_wp2_with fail
  exact bodyPost_ret (v := .tuple #[]) (by simp [results, Tryz.results168, go_sem]) rfl ⟨rfl, HW⟩
theorem pdqE_0 (p : Option Addr) (cap : Nat) (lim : Int) (f : Value) (w : World) :
    Calls Tryz.prog 168 #[.slice p 0 cap, .int .i64 0, .int .i64 0, .int .i64 lim, f] w fun e w' => e = .returned (.tuple #[]) ∧ w' = w := by
  have H := Lib.hid (fun W => insE_0 p cap f W)
  go_enter Tryz.func168, Tryz.ntmps168
  go_wp2_with fail
  refine wp_loop_rounds 2 ?_
  rw [rounds_succ]
  go_wp2_with (refine (H.out _).mono ?_; rintro e w4 ⟨rfl, rfl⟩)
  exact bodyPost_ret (v := .tuple #[]) (by simp [results, Tryz.results168, go_sem]) rfl ⟨rfl, rfl⟩
open Go.Sort Go.Shelf in
set_option maxHeartbeats 1000000 in
set_option maxRecDepth 100000 in
theorem sfE_c (blk off cap : Nat) (d : Array EnR) (w : World) (hl : CmpLays Tryz.prog 111 #[] enC 7 ckO blk off d.size w) (hH : HoldsK enC 7 w blk off d) (hb : blk < w.heap.size) (hn : d.size ≤ 12) :
    Calls Tryz.prog 110 #[.slice (some ⟨blk, off, none⟩) d.size cap, .func (.func 111) #[] #[]] w fun e w' =>
      e = .returned (.tuple #[]) ∧ ∃ n os, w' = sortWorldK enC 7 w blk off n (Sort.insertionSort (ltOf ckO) d 0 d.size) os := by
  have HI := Lib.hid (fun lim => pdqE_c blk off cap d lim w hl hH hb hn)
  clear hl hH hb
  generalize Sort.insertionSort (ltOf ckO) d 0 d.size = dd at *
  generalize d.size = n at *
  have HL := Lib.hid (fun W => len_c (n : Int) ⟨by omega, by omega⟩ W)
  have hw : IntKind.u64.wrap (n : Int) = n := by rw [IntKind.wrap_u64]; omega
  clear hn
  go_enter Tryz.func110, Tryz.ntmps110
  go_wp2_with fail
  refine (HL.out _).mono ?_
  rintro e w4 ⟨rfl, rfl⟩
  go_wp2_with fail
  refine (HI.out _).mono ?_
  rintro e w4 ⟨rfl, HW⟩
  go_wp2_with fail
  go_end0
  exact ⟨rfl, HW⟩
theorem sfE_0 (p : Option Addr) (cap : Nat) (f : Value) (w : World) :
    Calls Tryz.prog 110 #[.slice p 0 cap, f] w fun e w' => e = .returned (.tuple #[]) ∧ w' = w := by
  have H := Lib.hid (fun lim W => pdqE_0 p cap lim f W)
  have H2 := Lib.hid (fun W => len_c 0 ⟨by omega, by omega⟩ W)
  go_enter Tryz.func110, Tryz.ntmps110
  go_wp2_with fail
  refine (H2.out _).mono ?_
  rintro e w4 ⟨rfl, rfl⟩
  go_wp2_with fail
  refine (H.out _ _).mono ?_
  rintro e w4 ⟨rfl, rfl⟩
  go_wp2_with fail
  go_end0
  exact ⟨rfl, rfl⟩
open Go.Sort Go.Shelf in
theorem sortEn_c (L : List EnR) (q : Option Addr) (n c : Nat) {w0 w : World} (hn : n = L.length) (h12 : n ≤ 12) (hg : Gr w0 w) (hown : w.ownsRow w0.heap.size 77 7 (.slice q n c) n (enCs L)) (hrows : ∀ e ∈ L, RowsX w0 e.p e.n e.cap e.xs) :
    Calls Tryz.prog 110 #[.slice q n c, .func (.func 111) #[] #[]] w fun e w' =>
      e = .returned (.tuple #[]) ∧ EnS w' q (srtE L) ∧ Gr w0 w' := by
  subst hn
  rcases Nat.eq_zero_or_pos L.length with h0 | h0
  · rw [h0]
    refine (sfE_0 q c _ w).mono ?_
    rintro e w' ⟨rfl, rfl⟩
    have hz : srtE L = [] := List.eq_nil_of_length_eq_zero (by rw [(srtE_spec L).2.1]; exact h0)
    exact ⟨rfl, ⟨fun h => absurd h (by rw [hz]; simp)⟩, hg⟩
  · obtain ⟨g, cap, e, hb, hlt, hH⟩ := holdsK_en hown h0
    simp only [Value.slice.injEq] at e
    obtain ⟨rfl, _, rfl⟩ := e
    have hcmp : CmpLays Tryz.prog 111 #[] enC 7 ckO g 0 L.toArray.size w := by
      intro m os dk _ x y
      refine (clkCmp_c x y _).mono ?_
      rintro e w' ⟨rfl, gd⟩
      exact ⟨rfl, gd.grow⟩
    have hcall := sfE_c g 0 c L.toArray w hcmp hH hlt (by simpa using h12)
    rw [show L.toArray.size = L.length by simp] at hcall
    refine hcall.mono ?_
    rintro e w' ⟨rfl, m, os, rfl⟩
    have hsp := srtE_spec L
    have hGr : Gr w0 (sortWorldK enC 7 w g 0 m (Sort.insertionSort (ltOf ckO) L.toArray 0 L.length) os) := Below.grown hg (grownBy_sortedK enC 7 _) hg.size (fun k hk => by cases hk; exact hb)
    have hHs := holdsK_sortWorldK_c enC 7 w g 0 L.toArray (Sort.insertionSort (ltOf ckO) L.toArray 0 L.length) m os hH hlt (by have := hsp.2.1; unfold srtE at this; simpa using this)
    refine ⟨rfl, ⟨fun _ => ⟨g, 0, rfl, fun i x hx => ?_⟩⟩, hGr⟩
    have hmem : x ∈ L := hsp.1.mem_iff.1 (List.mem_of_getElem? hx)
    unfold srtE at hx
    rw [Array.getElem?_toList] at hx
    obtain ⟨hi, ex⟩ := Array.getElem?_eq_some_iff.1 hx
    have c0 := (hHs.cell hi (show 0 < 7 by omega)).1
    have c1 := (hHs.cell hi (show 1 < 7 by omega)).1
    have c2 := (hHs.cell hi (show 2 < 7 by omega)).1
    have c3 := (hHs.cell hi (show 3 < 7 by omega)).1
    have c4 := (hHs.cell hi (show 4 < 7 by omega)).1
    have c5 := (hHs.cell hi (show 5 < 7 by omega)).1
    have c6 := (hHs.cell hi (show 6 < 7 by omega)).1
    rw [getElem!_pos _ i hi, ex] at c0 c1 c2 c3 c4 c5 c6
    rw [Nat.zero_add] at c0 c1 c2 c3 c4 c5 c6 ⊢
    exact ⟨c0, c1, c2, c3, c4, c5, c6, (hrows x hmem).gr hGr⟩
end Go.Proofs.YtnihclhhbegjhaaGreatDoor
