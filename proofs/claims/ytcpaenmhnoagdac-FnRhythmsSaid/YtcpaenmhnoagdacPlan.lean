/-
  Contracts of the yield of a plan, told by bits, and of YieldOfPlan, of the model's and of the program's.
-/
import Derived.Test.YtcpaenmhnoagdacYieldNow
import Derived.Test.YtcpaenmhnoagdacRises
import Derived.Test.YtcpaenmhnoagdacBits
namespace Go.Proofs.Ytcpaenmhnoagdac.rod
open Go.ChangeShapes Go.WideShapes Go.ChangeAt Go.RowKit Go.Proofs.Ytcpaenmhnoagdac.mem Go.Proofs.Ytcpaenmhnoagdac.nums
set_option linter.unusedVariables false

/-- the sum of yields and the age of a bed after y years of a plan told by bits -/
def pls (m : Nat) (Y : Nat → Int) (a : Int) (B : Nat) : Nat → Int × Int
  | 0 => (0, a)
  | y + 1 => if B.testBit y then ((pls m Y a B y).1 + yl m Y (pls m Y a B y).2, 1) else ((pls m Y a B y).1, (pls m Y a B y).2 + 1)
theorem pls_yes {m : Nat} {Y : Nat → Int} {a : Int} {B y : Nat} (h : B.testBit y = true) : pls m Y a B (y + 1) = ((pls m Y a B y).1 + yl m Y (pls m Y a B y).2, 1) := by
  show (if _ then _ else _) = _; rw [if_pos h]
theorem pls_no {m : Nat} {Y : Nat → Int} {a : Int} {B y : Nat} (h : B.testBit y = false) : pls m Y a B (y + 1) = ((pls m Y a B y).1, (pls m Y a B y).2 + 1) := by
  show (if _ then _ else _) = _; rw [h]; rfl
theorem pls_bd {m : Nat} {Y : Nat → Int} {a : Int} {B : Nat} (hm : 1 ≤ m) (hY : ∀ i, i < m → 0 ≤ Y i ∧ Y i ≤ 10000) (ha : 0 ≤ a) (h5 : a ≤ 5) : ∀ y : Nat,
    0 ≤ (pls m Y a B y).1 ∧ (pls m Y a B y).1 ≤ 10000 * y ∧ 0 ≤ (pls m Y a B y).2 ∧ (pls m Y a B y).2 ≤ 5 + y
  | 0 => by simp [pls]; omega
  | y + 1 => by
    obtain ⟨h1, h2, h3, h4⟩ := pls_bd (B := B) hm hY ha h5 y
    have h6 := yl_bd (t := (pls m Y a B y).2) hm hY h3
    cases e : B.testBit y
    · rw [pls_no e]; refine ⟨?_, ?_, ?_, ?_⟩ <;> simp only [] <;> omega
    · rw [pls_yes e]; refine ⟨?_, ?_, ?_, ?_⟩ <;> simp only [] <;> omega

end Go.Proofs.Ytcpaenmhnoagdac.rod
