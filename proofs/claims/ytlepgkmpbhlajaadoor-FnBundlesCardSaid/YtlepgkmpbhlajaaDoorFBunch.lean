/-
  Contracts of the laws' helpers on structs of 3 whole numbers and lists of them.
-/
import Derived.Test.YtlepgkmpbhlajaaDoorIn
namespace Go.Proofs.YtlepgkmpbhlajaaDoor.rod
open Go.ChangeShapes Go.WideShapes Go.ChangeAt Go.RowKit
open Go.Proofs.YtlepgkmpbhlajaaDoor.mem
set_option linter.unusedVariables false

theorem info_bunch : (Tryd.prog.info? 40).map (fun i => (i.zero, i.size, i.bytes)) = some (some (.agg #[.int .i64 0, .int .i64 0, .int .i64 0]), 3, 24) := by kernel_rfl

end Go.Proofs.YtlepgkmpbhlajaaDoor.rod
