/-
  Contracts of LooseStakes, IsSound and LongestStack, of the model and of the program.
-/
import Derived.Test.YtlepgkmpbhlajaaGreatDoorWz
import Derived.Test.YtlepgkmpbhlajaaGreatDoorWt
namespace Go.Proofs.YtlepgkmpbhlajaaGreatDoor.wk
open Go.ChangeShapes Go.WideShapes Go.ChangeAt Go.RowKit
open Go.Proofs.YtlepgkmpbhlajaaGreatDoor.mem Go.Proofs.YtlepgkmpbhlajaaGreatDoor.rod Go.Proofs.YtlepgkmpbhlajaaGreatDoor.wv Go.Proofs.YtlepgkmpbhlajaaGreatDoor.gm Go.Proofs.YtlepgkmpbhlajaaGreatDoor.nums
set_option linter.unusedVariables false

/-! ### LooseStakes -/
/-! ### IsSound -/
/-! ### LongestStack -/
/-- the code and the number of LongestStack -/
def stackA (s : ByteArray) (n : Nat) : Int × Int := if looseL s n = [] then ((stackTo (byteAt s) s.size n n : Nat), 0) else (0, 10)
theorem run_stk {s : ByteArray} {n : Nat} (h0 : 0 < s.size) (k : Nat) : frun (byteAt (mkB (fun r => sideU s n r k) (rnd s.size n))) (mkB (fun r => sideU s n r k) (rnd s.size n)).size = frun (stk (byteAt s) s.size n k) (rnd s.size n) := by
  rw [frun_mk _ (rnd_pos n h0), ← stk_U]
theorem lrun_stk {s : ByteArray} {n : Nat} (h0 : 0 < s.size) (k : Nat) : lrun (byteAt (mkB (fun r => sideU s n r k) (rnd s.size n))) (mkB (fun r => sideU s n r k) (rnd s.size n)).size = lrun (stk (byteAt s) s.size n k) (rnd s.size n) := by
  rw [lrun_mk _ (rnd_pos n h0), ← stk_U]
theorem stackTo_step (f : Nat → Int) (n s k : Nat) : stackTo f n s (k + 1) = max (stackTo f n s k) (frun (stk f n s k) (rnd n s)) := rfl

theorem ascii_mk {s : ByteArray} (hst : strokeB s = true) (n k m : Nat) : ∀ i, i < (mkB (fun r => sideU s n r k) m).size → byteAt (mkB (fun r => sideU s n r k) m) i < 128 := fun i hi => by
  rw [mkB_size] at hi
  rw [mkB_byte _ hi, ← sideU_at]
  have := side_kinds hst n i k
  omega
end Go.Proofs.YtlepgkmpbhlajaaGreatDoor.wk
