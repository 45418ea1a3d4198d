/-
  Contracts of the laws' helpers on slices of whole numbers.
-/
import Derived.Test.YtldeeilgmogjjaaMem
import Derived.RegionTactic
import Derived.ChangeAlike
import Derived.Deep.QuietTactic
import Derived.BigQuiet
import Derived.Outline
namespace Go.Proofs.Ytldeeilgmogjjaa.nums
open Go.ChangeShapes Go.WideShapes Go.ChangeAt Go.RowKit
open Go.Proofs.Ytldeeilgmogjjaa.mem
set_option linter.unusedVariables false

theorem info_num : (Try.prog.info? 2).map (fun i => (i.zero, i.size, i.bytes)) = some (some (.int .i64 0), 1, 8) := by kernel_rfl

end Go.Proofs.Ytldeeilgmogjjaa.nums
