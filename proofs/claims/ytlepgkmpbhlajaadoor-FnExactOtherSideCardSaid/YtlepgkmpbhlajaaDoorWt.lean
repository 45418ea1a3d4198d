/-
  Contracts: how a weaver lies at the stakes of a round and at a stake in the rounds, of the program; RoundOf of both.
-/
import Derived.Test.YtlepgkmpbhlajaaDoorWs
import Derived.Test.YtlepgkmpbhlajaaDoorWl
namespace Go.Proofs.YtlepgkmpbhlajaaDoor.wk
open Go.ChangeShapes Go.WideShapes Go.ChangeAt Go.RowKit
open Go.Proofs.YtlepgkmpbhlajaaDoor.mem Go.Proofs.YtlepgkmpbhlajaaDoor.rod Go.Proofs.YtlepgkmpbhlajaaDoor.wv
set_option linter.unusedVariables false

end Go.Proofs.YtlepgkmpbhlajaaDoor.wk
