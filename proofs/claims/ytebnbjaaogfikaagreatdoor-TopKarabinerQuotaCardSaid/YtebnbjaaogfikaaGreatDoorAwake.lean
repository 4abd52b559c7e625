import Derived.Test.YtebnbjaaogfikaaGreatDoorEvPath
import Derived.Test.YtebnbjaaogfikaaGreatDoorProg
import Derived.KernelRfl
set_option linter.unusedVariables false
open Go Go.Ev Go.Proofs Go.RowKit
namespace A7
noncomputable abbrev prog := Tryz.prog
noncomputable def orc : Orc := fun _ _ _ => none
def gs0 : List (Nat × Cs) := [(0, ⟨[.string (bts []), .string (bts [100, 110, 115]), .string (bts [100, 110, 102]), .string (bts [100, 115, 113])], 120, none⟩)]
noncomputable abbrev tm0 : Ctx := ⟨.leaf, (fnOf prog 6).ntmps, []⟩
noncomputable abbrev s0 : S := Ev.start gs0
def tm1 : Ctx := ⟨(.node .leaf (some (.bool false)) .leaf), (nat_lit 87), []⟩
def s1 : S := ⟨(.node .leaf (some (.cells ⟨[(.string (bts [])), (.string (bts [(nat_lit 100), (nat_lit 110), (nat_lit 115)])), (.string (bts [(nat_lit 100), (nat_lit 110), (nat_lit 102)])), (.string (bts [(nat_lit 100), (nat_lit 115), (nat_lit 113)]))], (nat_lit 120), none⟩)) .leaf), (nat_lit 256), (nat_lit 256), none, []⟩
def ns1 : List Nat := [(nat_lit 0)]
def ts1 : List Nat := [(nat_lit 0)]
-- 0 names
theorem p1 : (Ev.run prog orc 100000 none (sA (bodyOf prog 6)) tm0 s0).bnd (fun r => some (only ns1 ts1 r)) = some (.normal, tm1, s1) := by kernel_rfl
def tm2 : Ctx := ⟨(.node (.node .leaf (some (.slice (some ⟨(nat_lit 307), (nat_lit 0), none⟩) (nat_lit 3) (nat_lit 3))) .leaf) (some (.bool false)) (.node .leaf (some (.int .i64 (Int.ofNat (nat_lit 0)))) .leaf)), (nat_lit 87), []⟩
def s2 : S := ⟨(.node (.node (.node .leaf none (.node (.node .leaf none (.node .leaf none (.node (.node (.node .leaf (some (.cells ⟨[(.int .i64 (Int.ofNat (nat_lit 2))), (.int .i64 (Int.ofNat (nat_lit 1))), (.int .i64 (Int.ofNat (nat_lit 3)))], (nat_lit 3), none⟩)) .leaf) none .leaf) none .leaf))) none .leaf)) none .leaf) (some (.cells ⟨[(.string (bts [])), (.string (bts [(nat_lit 100), (nat_lit 110), (nat_lit 115)])), (.string (bts [(nat_lit 100), (nat_lit 110), (nat_lit 102)])), (.string (bts [(nat_lit 100), (nat_lit 115), (nat_lit 113)]))], (nat_lit 120), none⟩)) .leaf), (nat_lit 314), (nat_lit 256), none, []⟩
def ns2 : List Nat := [(nat_lit 0), (nat_lit 307)]
def ts2 : List Nat := [(nat_lit 0), (nat_lit 1), (nat_lit 2)]
-- 58 names
theorem p2 : (Ev.run prog orc 100000 none (sA (sB (bodyOf prog 6))) tm1 s1).bnd (fun r => some (only ns2 ts2 r)) = some (.normal, tm2, s2) := by kernel_rfl
def tm3 : Ctx := ⟨(.node (.node (.node .leaf (some (.slice (some ⟨(nat_lit 363), (nat_lit 0), none⟩) (nat_lit 1) (nat_lit 1))) .leaf) (some (.slice (some ⟨(nat_lit 307), (nat_lit 0), none⟩) (nat_lit 3) (nat_lit 3))) .leaf) (some (.bool false)) (.node (.node .leaf (some (.int .i64 (Int.ofNat (nat_lit 0)))) .leaf) (some (.int .i64 (Int.ofNat (nat_lit 0)))) .leaf)), (nat_lit 87), []⟩
def s3 : S := ⟨(.node (.node (.node .leaf none (.node (.node .leaf none (.node .leaf none (.node (.node (.node .leaf (some (.cells ⟨[(.int .i64 (Int.ofNat (nat_lit 2))), (.int .i64 (Int.ofNat (nat_lit 1))), (.int .i64 (Int.ofNat (nat_lit 3)))], (nat_lit 3), none⟩)) .leaf) none .leaf) none .leaf))) none (.node (.node .leaf none (.node .leaf none (.node (.node .leaf (some (.cells ⟨[(.string (bts [(nat_lit 98), (nat_lit 101), (nat_lit 97)]))], (nat_lit 9), (some (nat_lit 1))⟩)) .leaf) none .leaf))) none .leaf))) none .leaf) (some (.cells ⟨[(.string (bts [])), (.string (bts [(nat_lit 100), (nat_lit 110), (nat_lit 115)])), (.string (bts [(nat_lit 100), (nat_lit 110), (nat_lit 102)])), (.string (bts [(nat_lit 100), (nat_lit 115), (nat_lit 113)]))], (nat_lit 120), none⟩)) .leaf), (nat_lit 367), (nat_lit 256), none, []⟩
def ns3 : List Nat := [(nat_lit 0), (nat_lit 307), (nat_lit 363)]
def ts3 : List Nat := [(nat_lit 0), (nat_lit 1), (nat_lit 2), (nat_lit 3), (nat_lit 4)]
-- 53 names
theorem p3 : (Ev.run prog orc 100000 none (sA (sB (sB (bodyOf prog 6)))) tm2 s2).bnd (fun r => some (only ns3 ts3 r)) = some (.normal, tm3, s3) := by kernel_rfl
def tm4 : Ctx := ⟨(.node .leaf (some (.bool true)) .leaf), (nat_lit 87), []⟩
def s4 : S := ⟨(.node .leaf (some (.cells ⟨[(.string (bts [])), (.string (bts [(nat_lit 100), (nat_lit 110), (nat_lit 115)])), (.string (bts [(nat_lit 100), (nat_lit 110), (nat_lit 102)])), (.string (bts [(nat_lit 100), (nat_lit 115), (nat_lit 113)]))], (nat_lit 120), none⟩)) .leaf), (nat_lit 552), (nat_lit 256), none, []⟩
def ns4 : List Nat := [(nat_lit 0)]
def ts4 : List Nat := [(nat_lit 0)]
-- 185 names
theorem p4 : (Ev.run prog orc 100000 none (sB (sB (sB (bodyOf prog 6)))) tm3 s3).bnd (fun r => some (only ns4 ts4 r)) = some (.ret, tm4, s4) := by kernel_rfl
theorem all [Go.Ev.Ground] (hE : Env prog) (horc : OrcOK prog orc) (hokp : OrcKp orc) : Ends prog none (bodyOf prog 6) tm0 s0 .ret tm4 s4 :=
  (Ends.seqP (c := (bodyOf prog 6)) (by kernel_rfl) (Ends.run hE horc hokp 100000 ns1 ts1 p1) (Ends.seqP (c := (sB (bodyOf prog 6))) (by kernel_rfl) (Ends.run hE horc hokp 100000 ns2 ts2 p2) (Ends.seqP (c := (sB (sB (bodyOf prog 6)))) (by kernel_rfl) (Ends.run hE horc hokp 100000 ns3 ts3 p3) (Ends.run hE horc hokp 100000 ns4 ts4 p4))))
theorem top (w : World) (hw : LaidIn gs0 w) (hE : Env prog) (horc : @OrcOK ⟨w⟩ prog orc) (hokp : OrcKp orc) : Calls prog 6 #[] w fun e w' => e = .returned (.bool true) ∧ Below w.heap.size w w' := by
  letI : Go.Ev.Ground := ⟨w⟩
  exact Ends.top w (gs := gs0) (by kernel_rfl) hw (by kernel_rfl) (all hE horc hokp) (by kernel_rfl) (by kernel_rfl)
end A7
