/-
  Contracts of limits and grades.
-/
import Derived.Test.YtcpaenmhnoagdabRods
import Derived.Test.YtcpaenmhnoagdabNums
import Derived.Test.YtcpaenmhnoagdabRises
namespace Go.Proofs.Ytcpaenmhnoagdab.rod
open Go.ChangeShapes Go.WideShapes Go.ChangeAt Go.RowKit
open Go.Proofs.Ytcpaenmhnoagdab.mem Go.Proofs.Ytcpaenmhnoagdab.nums
set_option linter.unusedVariables false

/-- numbers are limits of grades -/
def limB (n : Nat) (Y : Nat → Int) : Bool := decide (n ≤ 8) && risL 100 3000 Y n
theorem limB_of {n : Nat} {Y : Nat → Int} (h : limB n Y = true) : n ≤ 8 ∧ risL 100 3000 Y n = true := by
  unfold limB at h
  simp only [Bool.and_eq_true, decide_eq_true_eq] at h
  exact h


end Go.Proofs.Ytcpaenmhnoagdab.rod
