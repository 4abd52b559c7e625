/- Names: number.IsName and the reference's. -/
import Derived.Test.YtnbboheaheicnabGreatDoorBase
import Derived.Laws.RangeAny
import Derived.Deep.LoopGhost
import Derived.Deep.DrawnRows
import Derived.Deep.RegionHeld3
import Derived.BigCall
import Derived.Maps.AppendAt
namespace Go.Proofs.YtnbboheaheicnabGreatDoor
set_option linter.unusedSimpArgs false
set_option linter.unusedVariables false
open Go.RowKit Go.Lib
/-- letters, digits and the underline -/
def letB (c : Int) : Bool := (decide (65 ≤ c) && decide (c ≤ 90)) || (decide (97 ≤ c) && decide (c ≤ 122))
def digB (c : Int) : Bool := decide (48 ≤ c) && decide (c ≤ 57)
theorem isLetter_c (n : Int) (w : World) :
    Calls Tryz.prog 95 #[.int .i32 n] w fun e w' => e = .returned (.bool (letB n)) ∧ w = w' := by
  have HE : Hid (letB n = ((decide (65 ≤ n) && decide (n ≤ 90)) || (decide (97 ≤ n) && decide (n ≤ 122)))) := rfl
  cases h1 : decide (65 ≤ n) <;> cases h2 : decide (n ≤ 90) <;> cases h3 : decide (97 ≤ n) <;> cases h4 : decide (n ≤ 122)
  all_goals
    rw [h1, h2, h3, h4] at HE
    go_enter Tryz.func95, Tryz.ntmps95
    go_wp2_with fail
    go_ret
    exact ⟨by rw [HE.out]; rfl, rfl⟩
theorem isDigit_c (n : Int) (w : World) :
    Calls Tryz.prog 96 #[.int .i32 n] w fun e w' => e = .returned (.bool (digB n)) ∧ w = w' := by
  have HE : Hid (digB n = (decide (48 ≤ n) && decide (n ≤ 57))) := rfl
  cases h1 : decide (48 ≤ n) <;> cases h2 : decide (n ≤ 57)
  all_goals
    rw [h1, h2] at HE
    go_enter Tryz.func96, Tryz.ntmps96
    go_wp2_with fail
    go_ret
    exact ⟨by rw [HE.out]; rfl, rfl⟩
/-- what a name may have at a place -/
def nmB (i : Nat) (c : Int) : Bool := letB c || (!(i == 0) && (digB c || c == 95))
/-- names, with any length -/
def AllN (s : ByteArray) : Prop := ∀ i c, s.data.toList[i]? = some c → nmB i (c.toNat : Int) = true
instance (s : ByteArray) : Decidable (AllN s) := decidable_of_iff (∀ i : Fin s.data.toList.length, nmB i (s.data.toList[i].toNat : Int) = true)
  ⟨fun h i c hc => by
    obtain ⟨hi, rfl⟩ := List.getElem?_eq_some_iff.1 hc
    exact h ⟨i, hi⟩, fun h i => h i _ (List.getElem?_eq_getElem i.2)⟩
/-- a name -/
def Nm (s : ByteArray) : Prop := AllN s ∧ 0 < s.size ∧ s.size ≤ 24
instance (s : ByteArray) : Decidable (Nm s) := by unfold Nm; infer_instance
theorem gr_iter (w : World) (s : ByteArray) (pos : Nat) : Gr w (w.iter s pos) := (Gr.refl w).alloc _
theorem byte_at (s : ByteArray) (pos : Nat) (h : pos < s.size) : s.data.toList[pos]? = some (s[pos]'h) := by
  rw [List.getElem?_eq_getElem (by simpa using h)]; rfl
theorem tl (s : ByteArray) : s.toList = s.data.toList := ByteArray.toList_eq s
/-- a rune at a place: a byte, or no letter -/
theorem rune_at (s : ByteArray) (pos : Nat) (h : pos < s.size) : ((s[pos]'h).toNat < 128 ∧ Utf8.decode s pos = ((s[pos]'h).toNat, 1)) ∨ (128 ≤ (s[pos]'h).toNat ∧ 128 ≤ (Utf8.decode s pos).1) := by
  by_cases ha : (s[pos]'h).toNat < 128
  · exact .inl ⟨ha, decode_ascii s pos h ha⟩
  · exact .inr ⟨by omega, (decode_high s pos h (by omega)).1⟩
theorem nmB_high (i : Nat) {c : Int} (h : 128 ≤ c) : nmB i c = false := by
  have h1 : letB c = false := by unfold letB; simp; omega
  have h2 : digB c = false := by unfold digB; simp; omega
  have h3 : (c == 95) = false := by simp; omega
  unfold nmB
  rw [h1, h2, h3]; simp
end Go.Proofs.YtnbboheaheicnabGreatDoor
