/-
  Contracts: how a weaver lies at the stakes of a round and at a stake in the rounds, of the model.
-/
import Derived.Test.YtakcgeafcecimaaWb
import Derived.Test.YtakcgeafcecimaaWn
namespace Go.Proofs.Ytakcgeafcecimaa.wk
open Go.ChangeShapes Go.WideShapes Go.ChangeAt Go.RowKit
open Go.Proofs.Ytakcgeafcecimaa.mem Go.Proofs.Ytakcgeafcecimaa.rod Go.Proofs.Ytakcgeafcecimaa.wv
set_option linter.unusedVariables false

theorem info_u8 : (Try.prog.info? 5).map (fun i => (i.zero, i.size, i.bytes)) = some (some (.int .u8 0), 1, 1) := by kernel_rfl

end Go.Proofs.Ytakcgeafcecimaa.wk
