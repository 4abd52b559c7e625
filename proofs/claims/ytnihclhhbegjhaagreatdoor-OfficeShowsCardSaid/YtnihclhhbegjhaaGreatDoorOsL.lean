/- Archives (chapter 10): slices.Sort and slices.Compact of names at this seat; Rounds, as the program has it. -/
import Derived.Shelf.Sort.Plain
import Derived.Shelf.Slices.In.SortNone
import Derived.Shelf.Slices.CompactS
import Derived.Test.YtnihclhhbegjhaaGreatDoorGOsG
namespace Go.Proofs.YtnihclhhbegjhaaGreatDoor
open Go.RowKit Go.Lib
set_option linter.unusedSimpArgs false
set_option linter.unusedVariables false
def laysW_ren : Go.Shelf.Ren := ⟨fun | 125 => 119 | 128 => 180 | 129 => 181 | 190 => 70 | 258 => 118 | 302 => 171 | 303 => 172 | 304 => 173 | 305 => 174 | 306 => 175 | 307 => 176 | 308 => 177 | 309 => 178 | 310 => 179 | 329 => 228 | 330 => 229 | 333 => 227 | 334 => 230 | 335 => 231 | 336 => 170 | 344 => 259 | n => n, fun | 0 => 0 | 3 => 3 | 4 => 4 | 5 => 5 | 9 => 9 | 31 => 52 | 46 => 211 | 51 => 257 | 53 => 259 | 131 => 221 | 182 => 250 | 183 => 251 | 218 => 295 | 222 => 299 | 228 => 322 | 229 => 323 | n => n, fun n => n⟩
theorem laysW : Go.Proofs.Lays.n190 Tryz.prog laysW_ren := {
  mixed := by kernel_rfl
  f125 := Tryz.func119.trans (congrArg some (by kernel_rfl))
  f128 := Tryz.func180.trans (congrArg some (by kernel_rfl))
  f129 := Tryz.func181.trans (congrArg some (by kernel_rfl))
  f190 := Tryz.func70.trans (congrArg some (by kernel_rfl))
  f258 := Tryz.func118.trans (congrArg some (by kernel_rfl))
  f302 := Tryz.func171.trans (congrArg some (by kernel_rfl))
  f303 := Tryz.func172.trans (congrArg some (by kernel_rfl))
  f304 := Tryz.func173.trans (congrArg some (by kernel_rfl))
  f305 := Tryz.func174.trans (congrArg some (by kernel_rfl))
  f306 := Tryz.func175.trans (congrArg some (by kernel_rfl))
  f307 := Tryz.func176.trans (congrArg some (by kernel_rfl))
  f308 := Tryz.func177.trans (congrArg some (by kernel_rfl))
  f309 := Tryz.func178.trans (congrArg some (by kernel_rfl))
  f310 := Tryz.func179.trans (congrArg some (by kernel_rfl))
  f329 := Tryz.func228.trans (congrArg some (by kernel_rfl))
  f330 := Tryz.func229.trans (congrArg some (by kernel_rfl))
  f333 := Tryz.func227.trans (congrArg some (by kernel_rfl))
  f334 := Tryz.func230.trans (congrArg some (by kernel_rfl))
  f335 := Tryz.func231.trans (congrArg some (by kernel_rfl))
  f336 := Tryz.func170.trans (congrArg some (by kernel_rfl))
  f344 := Tryz.func259.trans (congrArg some (by kernel_rfl))
  t0 := Tryz.underlying0
  a0 := Tryz.isAgg0
  z0 := Tryz.sizeOf0
  v0 := Tryz.zeroValue0
  t3 := Tryz.underlying3
  a3 := Tryz.isAgg3
  z3 := Tryz.sizeOf3
  v3 := Tryz.zeroValue3
  t4 := Tryz.underlying4
  a4 := Tryz.isAgg4
  z4 := Tryz.sizeOf4
  v4 := Tryz.zeroValue4
  t5 := Tryz.underlying5
  a5 := Tryz.isAgg5
  z5 := Tryz.sizeOf5
  v5 := Tryz.zeroValue5
  t9 := Tryz.underlying9
  a9 := Tryz.isAgg9
  z9 := Tryz.sizeOf9
  v9 := Tryz.zeroValue9
  t31 := Tryz.underlying52
  a31 := Tryz.isAgg52
  z31 := Tryz.sizeOf52
  v31 := Tryz.zeroValue52
  t46 := Tryz.underlying211
  a46 := Tryz.isAgg211
  z46 := Tryz.sizeOf211
  v46 := Tryz.zeroValue211
  t51 := Tryz.underlying257
  a51 := Tryz.isAgg257
  z51 := Tryz.sizeOf257
  v51 := Tryz.zeroValue257
  t53 := Tryz.underlying259
  a53 := Tryz.isAgg259
  z53 := Tryz.sizeOf259
  v53 := Tryz.zeroValue259
  t131 := Tryz.underlying221
  a131 := Tryz.isAgg221
  z131 := Tryz.sizeOf221
  v131 := Tryz.zeroValue221
  t182 := Tryz.underlying250
  a182 := Tryz.isAgg250
  z182 := Tryz.sizeOf250
  v182 := Tryz.zeroValue250
  t183 := Tryz.underlying251
  a183 := Tryz.isAgg251
  z183 := Tryz.sizeOf251
  v183 := Tryz.zeroValue251
  t218 := Tryz.underlying295
  a218 := Tryz.isAgg295
  z218 := Tryz.sizeOf295
  v218 := Tryz.zeroValue295
  t222 := Tryz.underlying299
  a222 := Tryz.isAgg299
  z222 := Tryz.sizeOf299
  v222 := Tryz.zeroValue299
  t228 := Tryz.underlying322
  a228 := Tryz.isAgg322
  z228 := Tryz.sizeOf322
  v228 := Tryz.zeroValue322
  t229 := Tryz.underlying323
  a229 := Tryz.isAgg323
  z229 := Tryz.sizeOf323
  v229 := Tryz.zeroValue323 }
def laysC_ren : Go.Shelf.Ren := ⟨fun | 194 => 71 | n => n, fun | 0 => 0 | 3 => 3 | 4 => 4 | 9 => 9 | 31 => 52 | n => n, fun n => n⟩
theorem laysC : Go.Proofs.Lays.n194 Tryz.prog laysC_ren := {
  mixed := by kernel_rfl
  f194 := Tryz.func71.trans (congrArg some (by kernel_rfl))
  t0 := Tryz.underlying0
  a0 := Tryz.isAgg0
  z0 := Tryz.sizeOf0
  v0 := Tryz.zeroValue0
  t3 := Tryz.underlying3
  a3 := Tryz.isAgg3
  z3 := Tryz.sizeOf3
  v3 := Tryz.zeroValue3
  t4 := Tryz.underlying4
  a4 := Tryz.isAgg4
  z4 := Tryz.sizeOf4
  v4 := Tryz.zeroValue4
  t9 := Tryz.underlying9
  a9 := Tryz.isAgg9
  z9 := Tryz.sizeOf9
  v9 := Tryz.zeroValue9
  t31 := Tryz.underlying52
  a31 := Tryz.isAgg52
  z31 := Tryz.sizeOf52
  v31 := Tryz.zeroValue52 }

/-- the names of rounds, in cells -/
def rdC (l : List EnR) : List Value := l.map fun e => .string e.ro
theorem rdC_add (l : List EnR) (e : EnR) : rdC (l ++ [e]) = rdC l ++ [.string e.ro] := by simp [rdC]
theorem encStr_ro (s : ByteArray) : encStr s.toList = .string s := by
  show Value.string (toBA s.toList) = _
  rw [toBA_of]
open Go.Sort Go.Shelf in
theorem grownBy_put {w : World} {g n : Nat} {os : Array Obj} (d : Array (List UInt8)) : w.grownBy (grow (putRow encStr (Sort.ahead w n) g 0 d) os) (some g) := by
  refine ⟨rfl, rfl, rfl, by simp [putRow, mapBlock, Sort.ahead, grow], fun j hj hne => ?_⟩
  rw [heap_grow_old _ _ (by simpa using hj)]
  have : g ≠ j := fun e => hne (by rw [e])
  simp [putRow, mapBlock, Sort.ahead, Array.getElem?_modify, this]
open Go.Sort Go.Shelf in
theorem holds_rd {w : World} {base : Nat} {v : Value} {l : List EnR} {n : Nat} (hn : n = l.length) (h : w.ownsRow base 9 1 v n (rdC l)) (h0 : 0 < n) :
    ∃ g cap, v = .slice (some ⟨g, 0, none⟩) n cap ∧ base ≤ g ∧ g < w.heap.size ∧ Holds encStr w g 0 (l.map fun e => e.ro.toList).toArray ∧ n ≤ cap ∧ cap ≤ maxLen := by
  have hh := h
  rcases h.2 with ⟨rfl, h0'⟩ | ⟨g, cap, cur, rfl, hb, hcur, hle, hmx, _, _⟩
  · omega
  · have hlt := (Array.getElem?_eq_some_iff.1 hcur).1
    refine ⟨g, cap, rfl, hb, hlt, fun t ht => ⟨?_, by simp [World.frozen?, hcur]⟩, hle, hmx⟩
    have ht' : t < l.length := by simpa using ht
    have e : (⟨g, 0, none⟩ : Addr).add t = ⟨g, t, none⟩ := by unfold Addr.add; split <;> simp_all
    have c := hh.cells (g := g) rfl t (.string l[t].ro) (by simp [rdC, ht'])
    rw [e] at c
    rw [Nat.zero_add, c, getElem!_pos _ t ht]
    simp only [List.getElem_toArray, List.getElem_map]
    rw [encStr_ro]
/-- names that are sorted -/
def srtW (l : List EnR) : List (List UInt8) := (l.map fun e => e.ro.toList).mergeSort fun x y => decide (x ≤ y)
theorem srtW_len (l : List EnR) : (srtW l).length = l.length := by unfold srtW; rw [List.length_mergeSort, List.length_map]
open Go.Sort Go.Shelf in
theorem sortW_c {w0 w : World} {l : List EnR} {q : Option Addr} {n c : Nat} (hn : n = l.length) (h1 : n ≤ 1000) (hg : Gr w0 w) (hown : w.ownsRow w0.heap.size 9 1 (.slice q n c) n (rdC l)) :
    Calls Tryz.prog 70 #[.slice q n c] w fun e w' => e = .returned (.tuple #[]) ∧ Gr w0 w' ∧ (0 < n → ∃ g, q = some ⟨g, 0, none⟩ ∧ w0.heap.size ≤ g ∧ g < w'.heap.size ∧ Holds encStr w' g 0 (srtW l).toArray) := by
  rcases Nat.eq_zero_or_pos n with h0 | h0
  · rw [h0]
    refine (Any.slices_Sort_string_none laysW q c w).mono ?_
    rintro e w' ⟨rfl, rfl⟩
    exact ⟨rfl, hg, fun h => absurd h (by omega)⟩
  · obtain ⟨g, cap, e, hb, hlt, hH, _, _⟩ := holds_rd hn hown h0
    simp only [Value.slice.injEq] at e
    obtain ⟨rfl, _, rfl⟩ := e
    have := Any.slices_Sort_string laysW g 0 c (l.map fun e => e.ro.toList) w hH hlt (by rw [List.length_map]; omega)
    rw [List.length_map, ← hn] at this
    refine this.mono ?_
    rintro e w' ⟨rfl, m, os, rfl⟩
    have hsz : (srtW l).toArray.size = (l.map fun e => e.ro.toList).toArray.size := by simp [srtW_len]
    have hA : Holds encStr (Sort.ahead w m) g 0 (l.map fun e => e.ro.toList).toArray := hH
    have hP := holds_putRow encStr (Sort.ahead w m) g 0 _ (srtW l).toArray hA hsz
    refine ⟨rfl, Below.grown hg (grownBy_put _) hg.size (fun k hk => by cases hk; exact hb), fun _ => ⟨g, rfl, hb, ?_, holds_grow encStr _ os g 0 _ (by simpa using hlt) hP⟩⟩
    simp [grow]
    have : (Sort.ahead w m).heap.size = w.heap.size := rfl
    omega
open Go.Sort Go.Shelf in
theorem compW_c {w0 w : World} {l : List EnR} {q : Option Addr} {n c : Nat} (hn : n = l.length) (h1 : n ≤ 1000) (hc : n ≤ c) (hmx : c ≤ maxLen) (hg : Gr w0 w) (h : 0 < n → ∃ g, q = some ⟨g, 0, none⟩ ∧ w0.heap.size ≤ g ∧ g < w.heap.size ∧ Holds encStr w g 0 (srtW l).toArray) :
    Calls Tryz.prog 71 #[.slice q n c] w fun e w' => (∃ m, e = .returned (.slice q m c) ∧ StrAts w' (.slice q m c) (rdR l)) ∧ Gr w0 w' := by
  rcases Nat.eq_zero_or_pos n with h0 | h0
  · rw [h0]
    refine (Any.slices_Compact_string_empty laysC q c w).mono ?_
    rintro e w' ⟨rfl, rfl⟩
    have hl : l = [] := List.eq_nil_of_length_eq_zero (by omega)
    subst hl
    exact ⟨⟨0, rfl, ⟨q, c, rfl, ⟨by simp [rdR], hmx⟩, fun h => absurd h (by simp [rdR])⟩⟩, hg⟩
  · obtain ⟨g, rfl, hb, hlt, hH⟩ := h h0
    have hlen := srtW_len l
    have := Any.slices_Compact_string laysC g 0 c (srtW l) w hH (by rw [hlen]; omega) (by rw [hlen]; omega)
    rw [hlen, ← hn] at this
    refine this.mono ?_
    rintro e w' ⟨rfl, m, rfl⟩
    have hcl : Lib.compact (srtW l) = rdP l := rfl
    have hrl : (rdR l).length = (rdP l).length := by rw [← rd_same, List.length_map]
    have hle : (rdP l).length ≤ n := by have := rdR_len l; omega
    rw [hcl]
    refine ⟨⟨(rdP l).length, rfl, ⟨some ⟨g, 0, none⟩, c, by rw [hrl], ⟨by omega, hmx⟩, fun h9 => ⟨g, 0, rfl, fun i s hs => ⟨?_⟩⟩⟩⟩, ?_⟩
    · have hil := (List.getElem?_eq_some_iff.1 hs).1
      have hA : Holds encStr (Sort.ahead w m) g 0 (srtW l).toArray := hH
      have := cell?_putRow encStr (Sort.ahead w m) g 0 (srtW l).toArray (rdP l ++ List.replicate (n - (rdP l).length) []).toArray hA (by simp [hlen]; omega) i (by simp; omega)
      rw [this]
      rw [← rd_same, List.getElem?_map, Option.map_eq_some_iff] at hs
      obtain ⟨z, hz, rfl⟩ := hs
      have hz2 : (rdP l ++ List.replicate (n - (rdP l).length) [])[i]? = some z := by rw [List.getElem?_append_left (by omega)]; exact hz
      obtain ⟨hz3, hz4⟩ := List.getElem?_eq_some_iff.1 hz2
      rw [getElem!_pos _ i (by simpa using hz3)]
      simp only [List.getElem_toArray]
      rw [hz4]
      rfl
    · have := grownBy_put (w := w) (g := g) (n := m) (os := #[]) (rdP l ++ List.replicate (n - (rdP l).length) []).toArray
      rw [grow_empty] at this
      exact Below.grown hg this hg.size (fun k hk => by cases hk; exact hb)
end Go.Proofs.YtnihclhhbegjhaaGreatDoor
