/-
  Contracts: how a weaver lies at the stakes of a round and at a stake in the rounds, of the program; RoundOf of both.
-/
import Derived.Test.YtakcgeafcecimaaWs
import Derived.Test.YtakcgeafcecimaaWl
namespace Go.Proofs.Ytakcgeafcecimaa.wk
open Go.ChangeShapes Go.WideShapes Go.ChangeAt Go.RowKit
open Go.Proofs.Ytakcgeafcecimaa.mem Go.Proofs.Ytakcgeafcecimaa.rod Go.Proofs.Ytakcgeafcecimaa.wv
set_option linter.unusedVariables false

end Go.Proofs.Ytakcgeafcecimaa.wk
