/-
  Contracts of what a bed yields; of YieldNow, of the model's and of the program's; of the laws' helpers on one bed.
-/
import Derived.Test.YtakcgeafcecimaaDoorBed
import Derived.Test.YtakcgeafcecimaaDoorNums
namespace Go.Proofs.YtakcgeafcecimaaDoor.rod
open Go.ChangeShapes Go.WideShapes Go.ChangeAt Go.RowKit Go.Proofs.YtakcgeafcecimaaDoor.mem Go.Proofs.YtakcgeafcecimaaDoor.nums
set_option linter.unusedVariables false

/-- what a bed yields that was cut t years ago -/
def yl (m : Nat) (Y : Nat → Int) (t : Int) : Int := if t = 0 then 0 else if t ≤ m then Y (t.toNat - 1) else Y (m - 1)
theorem yl_zero {m : Nat} {Y : Nat → Int} : yl m Y 0 = 0 := rfl
theorem yl_in {m : Nat} {Y : Nat → Int} {t : Int} (h : t ≠ 0) (h2 : t ≤ m) : yl m Y t = Y (t.toNat - 1) := by unfold yl; rw [if_neg h, if_pos h2]
theorem yl_out {m : Nat} {Y : Nat → Int} {t : Int} (h : t ≠ 0) (h2 : ¬ t ≤ m) : yl m Y t = Y (m - 1) := by unfold yl; rw [if_neg h, if_neg h2]
theorem yl_bd {m : Nat} {Y : Nat → Int} {t : Int} (hm : 1 ≤ m) (hY : ∀ i, i < m → 0 ≤ Y i ∧ Y i ≤ 10000) (ht : 0 ≤ t) : 0 ≤ yl m Y t ∧ yl m Y t ≤ 10000 := by
  unfold yl
  split
  · omega
  · split
    · exact hY _ (by omega)
    · exact hY _ (by omega)

end Go.Proofs.YtakcgeafcecimaaDoor.rod
