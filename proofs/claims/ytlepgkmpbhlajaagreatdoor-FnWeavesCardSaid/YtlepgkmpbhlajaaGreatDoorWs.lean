/-
  Contracts: how a weaver lies at the stakes of a round and at a stake in the rounds, of the model.
-/
import Derived.Test.YtlepgkmpbhlajaaGreatDoorWb
import Derived.Test.YtlepgkmpbhlajaaGreatDoorWn
namespace Go.Proofs.YtlepgkmpbhlajaaGreatDoor.wk
open Go.ChangeShapes Go.WideShapes Go.ChangeAt Go.RowKit
open Go.Proofs.YtlepgkmpbhlajaaGreatDoor.mem Go.Proofs.YtlepgkmpbhlajaaGreatDoor.rod Go.Proofs.YtlepgkmpbhlajaaGreatDoor.wv
set_option linter.unusedVariables false

theorem info_u8 : (Tryz.prog.info? 5).map (fun i => (i.zero, i.size, i.bytes)) = some (some (.int .u8 0), 1, 1) := by kernel_rfl

end Go.Proofs.YtlepgkmpbhlajaaGreatDoor.wk
