/-
  Contracts: whether a weave is sound, of the model and of the program; IsSound, LooseStakes, LongestStack.
-/
import Derived.Test.YtlepgkmpbhlajaaGreatDoorWx
namespace Go.Proofs.YtlepgkmpbhlajaaGreatDoor.wk
open Go.ChangeShapes Go.WideShapes Go.ChangeAt Go.RowKit
open Go.Proofs.YtlepgkmpbhlajaaGreatDoor.mem Go.Proofs.YtlepgkmpbhlajaaGreatDoor.rod Go.Proofs.YtlepgkmpbhlajaaGreatDoor.wv Go.Proofs.YtlepgkmpbhlajaaGreatDoor.gm Go.Proofs.YtlepgkmpbhlajaaGreatDoor.nums
set_option linter.unusedVariables false

theorem own_row {w w' : World} {g n : Nat} {X : Nat → Int} (hg : w.heap.size ≤ g) (h : Own w' g 2 n X) : Row w' w.heap.size w'.heap.size (some ⟨g, 0, none⟩) n 1 2 X :=
  fun _ => ⟨g, rfl, hg, h.lt, by rw [Nat.mul_one]; exact h⟩
theorem looseL_0 (s : ByteArray) (n : Nat) : (looseL s n).length = 0 ↔ loose (byteAt s) s.size n = [] := by rw [List.length_eq_zero_iff, looseL_nil]

/-- the code of a stroke, stakes and a greatest float -/
def codeF (s : ByteArray) (a b : Int) : Int := if codeW s a = 0 then (if inB b 1 12 = true then 0 else 2) else codeW s a
theorem codeF_0 {s : ByteArray} {a b : Int} : codeF s a b = 0 ↔ codeW s a = 0 ∧ inB b 1 12 = true := by
  unfold codeF
  by_cases h : codeW s a = 0
  · rw [if_pos h]
    cases inB b 1 12 <;> simp [h]
  · rw [if_neg h]; simp [h]
theorem codeF_w {s : ByteArray} {a b : Int} (h : ¬ codeW s a = 0) : codeF s a b = codeW s a := by unfold codeF; rw [if_neg h]
theorem codeF_b {s : ByteArray} {a b : Int} (h : codeW s a = 0) (h2 : inB b 1 12 = false) : codeF s a b = 2 := by unfold codeF; rw [if_pos h, h2]; rfl
theorem float_of {b : Int} (h : inB b 1 12 = true) : ∃ n : Nat, b = (n : Int) ∧ 1 ≤ n ∧ n ≤ 12 := by
  obtain ⟨h1, h2⟩ := inB_of h
  exact ⟨b.toNat, by omega, by omega, by omega⟩
end Go.Proofs.YtlepgkmpbhlajaaGreatDoor.wk
