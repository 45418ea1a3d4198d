/-
  Contracts of the greatest common divisor, of lowest terms, and of the comparison of fractions.
-/
import Derived.Test.YtakcgeafcecimaaDoorIn
import Derived.StillTailTactics
namespace Go.Proofs.YtakcgeafcecimaaDoor.rod
open Go.ChangeShapes Go.WideShapes Go.ChangeAt Go.RowKit Go.Proofs.YtakcgeafcecimaaDoor.mem
set_option linter.unusedVariables false

def gcdI (a b : Int) : Int := (Int.gcd a b : Int)
theorem gcdI_step {x y : Int} (hx : 0 ≤ x) (hy : 1 ≤ y) : gcdI y (x % y) = gcdI x y := by
  obtain ⟨m, rfl⟩ := Int.eq_ofNat_of_zero_le hx
  obtain ⟨n, rfl⟩ := Int.eq_ofNat_of_zero_le (by omega : 0 ≤ y)
  unfold gcdI
  rw [← Int.natCast_emod]
  simp only [Int.gcd_natCast_natCast]
  rw [Nat.gcd_comm m n, Nat.gcd_rec n m, Nat.gcd_comm]
theorem gcdI_zero {x : Int} (hx : 0 ≤ x) : gcdI x 0 = x := by
  unfold gcdI; simp; omega
theorem gcdI_pos {x y : Int} (hy : 1 ≤ y) : 1 ≤ gcdI x y := by
  unfold gcdI
  have : 0 < Int.gcd x y := Int.gcd_pos_of_ne_zero_right _ (by omega)
  omega
theorem gcdI_le {x y : Int} (hy : 1 ≤ y) : gcdI x y ≤ y := by
  unfold gcdI
  exact Int.gcd_le_right x (by omega)

end Go.Proofs.YtakcgeafcecimaaDoor.rod
