/-
  Contracts: the longest run of a text that is repeated, of the model and of the program.
-/
import Derived.Test.YtlepgkmpbhlajaaGreatDoorWr
import Derived.Laws.RangeString
import Derived.Laws.RangeAny
namespace Go.Proofs.YtlepgkmpbhlajaaGreatDoor.wk
open Go.ChangeShapes Go.WideShapes Go.ChangeAt Go.RowKit
open Go.Proofs.YtlepgkmpbhlajaaGreatDoor.mem Go.Proofs.YtlepgkmpbhlajaaGreatDoor.rod Go.Proofs.YtlepgkmpbhlajaaGreatDoor.wv
set_option linter.unusedVariables false

theorem rs_eq {f : Nat → Int} {k : Nat} (h : f (k + 1) = f k) : rs f (k + 1) = re f k := if_pos h
theorem rs_ne {f : Nat → Int} {k : Nat} (h : ¬ f (k + 1) = f k) : rs f (k + 1) = 0 := if_neg h
theorem mb_eq {f : Nat → Int} {k : Nat} (h : f (k + 1) = f k) : mb f (k + 1) = mb f k := if_pos h
theorem mb_ne {f : Nat → Int} {k : Nat} (h : ¬ f (k + 1) = f k) : mb f (k + 1) = max (mb f k) (re f k) := if_neg h
theorem rs_le (f : Nat → Int) (i : Nat) : rs f i ≤ i := by have := re_le f i; have := re_rs f i; omega
end Go.Proofs.YtlepgkmpbhlajaaGreatDoor.wk
