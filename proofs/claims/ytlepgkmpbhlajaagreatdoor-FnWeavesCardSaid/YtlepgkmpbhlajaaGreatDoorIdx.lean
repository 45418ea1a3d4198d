/-
  Contract of the program's list of indices.
-/
import Derived.Test.YtlepgkmpbhlajaaGreatDoorIn
import Derived.Test.YtlepgkmpbhlajaaGreatDoorNums
namespace Go.Proofs.YtlepgkmpbhlajaaGreatDoor.rod
open Go.ChangeShapes Go.WideShapes Go.ChangeAt Go.RowKit Go.Proofs.YtlepgkmpbhlajaaGreatDoor.mem Go.Proofs.YtlepgkmpbhlajaaGreatDoor.nums
set_option linter.unusedVariables false

end Go.Proofs.YtlepgkmpbhlajaaGreatDoor.rod
