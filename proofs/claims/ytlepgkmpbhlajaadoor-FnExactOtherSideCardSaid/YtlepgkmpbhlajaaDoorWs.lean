/-
  Contracts: how a weaver lies at the stakes of a round and at a stake in the rounds, of the model.
-/
import Derived.Test.YtlepgkmpbhlajaaDoorWb
import Derived.Test.YtlepgkmpbhlajaaDoorWn
namespace Go.Proofs.YtlepgkmpbhlajaaDoor.wk
open Go.ChangeShapes Go.WideShapes Go.ChangeAt Go.RowKit
open Go.Proofs.YtlepgkmpbhlajaaDoor.mem Go.Proofs.YtlepgkmpbhlajaaDoor.rod Go.Proofs.YtlepgkmpbhlajaaDoor.wv
set_option linter.unusedVariables false

theorem info_u8 : (Tryd.prog.info? 5).map (fun i => (i.zero, i.size, i.bytes)) = some (some (.int .u8 0), 1, 1) := by kernel_rfl

end Go.Proofs.YtlepgkmpbhlajaaDoor.wk
