/-
  Contracts of the laws' helpers on structs of 3 whole numbers and lists of them.
-/
import Derived.Test.YtcpaenmhnoagdaaDoorIn
namespace Go.Proofs.YtcpaenmhnoagdaaDoor.rod
open Go.ChangeShapes Go.WideShapes Go.ChangeAt Go.RowKit
open Go.Proofs.YtcpaenmhnoagdaaDoor.mem
set_option linter.unusedVariables false

theorem toBunch_c (x0 x1 x2 : Int) (w : World) :
    Calls Tryd.prog 6 #[.agg #[.int .i64 x0, .int .i64 x1, .int .i64 x2]] w fun e w' => e = .returned (.agg #[.int .i64 x0, .int .i64 x1, .int .i64 x2]) ∧ Below w.heap.size w w' := by
  go_enter Tryd.func6, Tryd.ntmps6
  go_wp2
  go_returns
  exact ⟨rfl, by go_grown⟩

theorem info_bunch : (Tryd.prog.info? 25).map (fun i => (i.zero, i.size, i.bytes)) = some (some (.agg #[.int .i64 0, .int .i64 0, .int .i64 0]), 3, 24) := by kernel_rfl

end Go.Proofs.YtcpaenmhnoagdaaDoor.rod
