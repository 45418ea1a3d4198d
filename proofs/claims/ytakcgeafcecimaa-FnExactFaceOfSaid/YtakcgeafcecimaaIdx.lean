/-
  Contract of the program's list of indices.
-/
import Derived.Test.YtakcgeafcecimaaIn
import Derived.Test.YtakcgeafcecimaaNums
namespace Go.Proofs.Ytakcgeafcecimaa.rod
open Go.ChangeShapes Go.WideShapes Go.ChangeAt Go.RowKit Go.Proofs.Ytakcgeafcecimaa.mem Go.Proofs.Ytakcgeafcecimaa.nums
set_option linter.unusedVariables false

end Go.Proofs.Ytakcgeafcecimaa.rod
