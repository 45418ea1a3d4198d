/-
  Contracts of SoundStakes, of the model and of the program.
-/
import Derived.Test.YtlepgkmpbhlajaaGreatDoorCo
namespace Go.Proofs.YtlepgkmpbhlajaaGreatDoor.sn
open Go.ChangeShapes Go.WideShapes Go.ChangeAt Go.RowKit
open Go.Proofs.YtlepgkmpbhlajaaGreatDoor.mem Go.Proofs.YtlepgkmpbhlajaaGreatDoor.rod Go.Proofs.YtlepgkmpbhlajaaGreatDoor.wv Go.Proofs.YtlepgkmpbhlajaaGreatDoor.wk Go.Proofs.YtlepgkmpbhlajaaGreatDoor.rf Go.Proofs.YtlepgkmpbhlajaaGreatDoor.rk Go.Proofs.YtlepgkmpbhlajaaGreatDoor.nums
set_option linter.unusedVariables false

def sndL (s : ByteArray) (fl hi : Nat) : List Int := idxs (sndQ (byteAt s) s.size fl) (hi + 1)
theorem sndL_len (s : ByteArray) (fl hi : Nat) : (sndL s fl hi).length ≤ hi + 1 := idxs_len _ _

end Go.Proofs.YtlepgkmpbhlajaaGreatDoor.sn
