/-
  Contracts of SoundStakes, of the model and of the program; slices.Collect over the program's iterator.
-/
import Derived.Test.YtlepgkmpbhlajaaGreatDoorSn
import Derived.RangeFuncFrom
import Derived.RangeFuncBox
import Derived.Maps.AppendAt
namespace Go.Proofs.YtlepgkmpbhlajaaGreatDoor.sn
open Go.ChangeShapes Go.WideShapes Go.ChangeAt Go.RowKit
open Go.Proofs.YtlepgkmpbhlajaaGreatDoor.mem Go.Proofs.YtlepgkmpbhlajaaGreatDoor.rod Go.Proofs.YtlepgkmpbhlajaaGreatDoor.wv Go.Proofs.YtlepgkmpbhlajaaGreatDoor.wk Go.Proofs.YtlepgkmpbhlajaaGreatDoor.rf Go.Proofs.YtlepgkmpbhlajaaGreatDoor.rk Go.Proofs.YtlepgkmpbhlajaaGreatDoor.nums
set_option linter.unusedVariables false
attribute [local go_sem] Oper.semAt_some wide_fn wide_depth wideR_fn wideR_depth

/-- with which number of stakes a weave is sound -/
def sndQ (f : Nat → Int) (n fl : Nat) (k : Nat) : Bool := decide (3 ≤ k) && soundB f n k fl
theorem sndQ_at {f : Nat → Int} {n fl k : Nat} (h : 3 ≤ k) : sndQ f n fl k = soundB f n k fl := by unfold sndQ; rw [decide_eq_true h, Bool.true_and]
theorem sndQ_3 (f : Nat → Int) (n fl : Nat) : idxs (sndQ f n fl) 3 = [] := by
  rw [idxs_no (show sndQ f n fl 2 = false by simp [sndQ]), idxs_no (show sndQ f n fl 1 = false by simp [sndQ]), idxs_no (show sndQ f n fl 0 = false by simp [sndQ])]
  rfl
theorem grown_of {A B : World} (h : Below A.heap.size A B) : A.grownBy B none := ⟨by rw [h.os], by rw [h.tape], by rw [h.output], h.size, fun i hi _ => h.block i hi⟩

end Go.Proofs.YtlepgkmpbhlajaaGreatDoor.sn
