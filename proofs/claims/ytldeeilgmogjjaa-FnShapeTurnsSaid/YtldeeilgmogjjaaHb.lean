/-
  Contracts of SpacingAt, of the model and of the program. No condition of a statement lies here.
-/
import Derived.Test.YtldeeilgmogjjaaHa
import Derived.Test.YtldeeilgmogjjaaFrac
import Derived.Test.YtldeeilgmogjjaaOpen
import Derived.Test.YtldeeilgmogjjaaNums
import Derived.Test.YtldeeilgmogjjaaIn
namespace Go.Proofs.Ytldeeilgmogjjaa.shp
open Go.ChangeShapes Go.WideShapes Go.ChangeAt Go.RowKit Go.Proofs.Ytldeeilgmogjjaa.mem Go.Proofs.Ytldeeilgmogjjaa.rod Go.Proofs.Ytldeeilgmogjjaa.nums
set_option linter.unusedVariables false
set_option maxRecDepth 100000

end Go.Proofs.Ytldeeilgmogjjaa.shp
