/-
  No cell of these rows narrows 'for every input' (looked for: loops, veiled, ifaces, maps, wideKeys, modest, calm, conditions, laid).
  DERIVED. THE GIVEN ROWS OF THIS SEAT. 12 by the template 'for every input the law returns true; each argument reads behind the call as it read before'; 0 by the template 'total and deterministic' (their statements: YtcpaenmhnoagdabTotals.lean).
  GIVEN WITH THE SEED: the statements are not yours to turn. If you find one false, say at which input.
  Laid BY PROGRAM, IN A SANDBOX (cutbox-rows.mjs): the forced cells as the released guide's own fill.sh prints them over the translation 1f35d67133193d2d… (all of the seat's roots in one cut). By AI agents, Wed Nov 11 2026. No macro, syntax, notation, axiom, sorry.
-/
import Derived.Test.YtcpaenmhnoagdabChecked
import GoSem.Claim
import GoSem.ClaimJoined
import GoSem.ClaimMapViews
import Derived.JoinedTies
import Derived.KernelRfl
namespace Go.Proofs.Ytcpaenmhnoagdab
/- THE CELL 'sum', in the pinned program and in every row, IS THE sha256 OF THE DUMP (.gsa) THAT YtcpaenmhnoagdabProg.lean LOADS. Nothing in Lean hashes anything: it is a label: what it is worth is what the hold of that sum in a sandbox is worth. -/
noncomputable def Try.pinned : Pinned := { name := "ytcpaenmhnoagdab", sum := "1f35d67133193d2d46f9a0681c86eb972c3461c201aa269b4234beb748baf0ad", checked := Try.checked }
namespace Rows
def none {H : Type} : Left H := { results := [], args := [] }

/-- 'laws.FnExactValidRods': WHATEVER THE INPUT: true; the input reads as it did. -/
def fnExactValidRodsSpec : ChangeSpec := { name := "fnExactValidRods", fn := fun _ => fun
  | [d] => { results := [.lit (.bool true)], args := [d] }
  | _ => none }
def fnExactValidRodsRow : OpenClaim := { program := "ytcpaenmhnoagdab", sum := "1f35d67133193d2d46f9a0681c86eb972c3461c201aa269b4234beb748baf0ad", func := "loop.example/g01064/laws.FnExactValidRods", spec := "fnExactValidRods", unfollowed := true, recurses := true, apart := false }
def FnExactValidRodsSaid : Prop := fnExactValidRodsRow.holds Try.pinned (OpenSpec.ofChange fnExactValidRodsSpec)

/-- ITS FALSE NEIGHBOUR: 'it returns false'. Refute it at one input. -/
def fnExactValidRodsWrong : ChangeSpec := { name := "fnExactValidRods", fn := fun _ => fun
  | [d] => { results := [.lit (.bool false)], args := [d] }
  | _ => none }
def FnExactValidRodsWrongFalsely : Prop := fnExactValidRodsRow.holds Try.pinned (OpenSpec.ofChange fnExactValidRodsWrong)

/-- 'laws.FnExactCountGrades': WHATEVER THE INPUT: true; the input reads as it did. -/
def fnExactCountGradesSpec : ChangeSpec := { name := "fnExactCountGrades", fn := fun _ => fun
  | [d1, d2] => { results := [.lit (.bool true)], args := [d1, d2] }
  | _ => none }
def fnExactCountGradesRow : OpenClaim := { program := "ytcpaenmhnoagdab", sum := "1f35d67133193d2d46f9a0681c86eb972c3461c201aa269b4234beb748baf0ad", func := "loop.example/g01064/laws.FnExactCountGrades", spec := "fnExactCountGrades", unfollowed := true, recurses := true, apart := false }
def FnExactCountGradesSaid : Prop := fnExactCountGradesRow.holds Try.pinned (OpenSpec.ofChange fnExactCountGradesSpec)

/-- ITS FALSE NEIGHBOUR: 'it returns false'. Refute it at one input. -/
def fnExactCountGradesWrong : ChangeSpec := { name := "fnExactCountGrades", fn := fun _ => fun
  | [d1, d2] => { results := [.lit (.bool false)], args := [d1, d2] }
  | _ => none }
def FnExactCountGradesWrongFalsely : Prop := fnExactCountGradesRow.holds Try.pinned (OpenSpec.ofChange fnExactCountGradesWrong)

/-- 'laws.FnExactLongestFirst': WHATEVER THE INPUT: true; the input reads as it did. -/
def fnExactLongestFirstSpec : ChangeSpec := { name := "fnExactLongestFirst", fn := fun _ => fun
  | [d] => { results := [.lit (.bool true)], args := [d] }
  | _ => none }
def fnExactLongestFirstRow : OpenClaim := { program := "ytcpaenmhnoagdab", sum := "1f35d67133193d2d46f9a0681c86eb972c3461c201aa269b4234beb748baf0ad", func := "loop.example/g01064/laws.FnExactLongestFirst", spec := "fnExactLongestFirst", inPlace := ["internal/reflectlite.ValueOf", "internal/reflectlite.Swapper", "(internal/reflectlite.Value).Len"], unfollowed := true, recurses := true, apart := false }
def FnExactLongestFirstSaid : Prop := fnExactLongestFirstRow.holds Try.pinned (OpenSpec.ofChange fnExactLongestFirstSpec)

/-- ITS FALSE NEIGHBOUR: 'it returns false'. Refute it at one input. -/
def fnExactLongestFirstWrong : ChangeSpec := { name := "fnExactLongestFirst", fn := fun _ => fun
  | [d] => { results := [.lit (.bool false)], args := [d] }
  | _ => none }
def FnExactLongestFirstWrongFalsely : Prop := fnExactLongestFirstRow.holds Try.pinned (OpenSpec.ofChange fnExactLongestFirstWrong)

/-- 'laws.FnExactMostAlike': WHATEVER THE INPUT: true; the input reads as it did. -/
def fnExactMostAlikeSpec : ChangeSpec := { name := "fnExactMostAlike", fn := fun _ => fun
  | [d] => { results := [.lit (.bool true)], args := [d] }
  | _ => none }
def fnExactMostAlikeRow : OpenClaim := { program := "ytcpaenmhnoagdab", sum := "1f35d67133193d2d46f9a0681c86eb972c3461c201aa269b4234beb748baf0ad", func := "loop.example/g01064/laws.FnExactMostAlike", spec := "fnExactMostAlike", unfollowed := true, recurses := true, apart := false }
def FnExactMostAlikeSaid : Prop := fnExactMostAlikeRow.holds Try.pinned (OpenSpec.ofChange fnExactMostAlikeSpec)

/-- ITS FALSE NEIGHBOUR: 'it returns false'. Refute it at one input. -/
def fnExactMostAlikeWrong : ChangeSpec := { name := "fnExactMostAlike", fn := fun _ => fun
  | [d] => { results := [.lit (.bool false)], args := [d] }
  | _ => none }
def FnExactMostAlikeWrongFalsely : Prop := fnExactMostAlikeRow.holds Try.pinned (OpenSpec.ofChange fnExactMostAlikeWrong)

/-- 'laws.FnExactRodsBetween': WHATEVER THE INPUT: true; the input reads as it did. -/
def fnExactRodsBetweenSpec : ChangeSpec := { name := "fnExactRodsBetween", fn := fun _ => fun
  | [d1, d2, d3] => { results := [.lit (.bool true)], args := [d1, d2, d3] }
  | _ => none }
def fnExactRodsBetweenRow : OpenClaim := { program := "ytcpaenmhnoagdab", sum := "1f35d67133193d2d46f9a0681c86eb972c3461c201aa269b4234beb748baf0ad", func := "loop.example/g01064/laws.FnExactRodsBetween", spec := "fnExactRodsBetween", unfollowed := true, recurses := true, apart := false }
def FnExactRodsBetweenSaid : Prop := fnExactRodsBetweenRow.holds Try.pinned (OpenSpec.ofChange fnExactRodsBetweenSpec)

/-- ITS FALSE NEIGHBOUR: 'it returns false'. Refute it at one input. -/
def fnExactRodsBetweenWrong : ChangeSpec := { name := "fnExactRodsBetween", fn := fun _ => fun
  | [d1, d2, d3] => { results := [.lit (.bool false)], args := [d1, d2, d3] }
  | _ => none }
def FnExactRodsBetweenWrongFalsely : Prop := fnExactRodsBetweenRow.holds Try.pinned (OpenSpec.ofChange fnExactRodsBetweenWrong)

/-- 'laws.FnGrades': WHATEVER THE INPUT: true; the input reads as it did. -/
def fnGradesSpec : ChangeSpec := { name := "fnGrades", fn := fun _ => fun
  | [d1, d2] => { results := [.lit (.bool true)], args := [d1, d2] }
  | _ => none }
def fnGradesRow : OpenClaim := { program := "ytcpaenmhnoagdab", sum := "1f35d67133193d2d46f9a0681c86eb972c3461c201aa269b4234beb748baf0ad", func := "loop.example/g01064/laws.FnGrades", spec := "fnGrades", inPlace := ["internal/reflectlite.ValueOf", "internal/reflectlite.Swapper", "(internal/reflectlite.Value).Len"], unfollowed := true, recurses := true, apart := false }
def FnGradesSaid : Prop := fnGradesRow.holds Try.pinned (OpenSpec.ofChange fnGradesSpec)

/-- ITS FALSE NEIGHBOUR: 'it returns false'. Refute it at one input. -/
def fnGradesWrong : ChangeSpec := { name := "fnGrades", fn := fun _ => fun
  | [d1, d2] => { results := [.lit (.bool false)], args := [d1, d2] }
  | _ => none }
def FnGradesWrongFalsely : Prop := fnGradesRow.holds Try.pinned (OpenSpec.ofChange fnGradesWrong)

/-- 'laws.FnExactValidBeds': WHATEVER THE INPUT: true; the input reads as it did. -/
def fnExactValidBedsSpec : ChangeSpec := { name := "fnExactValidBeds", fn := fun _ => fun
  | [d] => { results := [.lit (.bool true)], args := [d] }
  | _ => none }
def fnExactValidBedsRow : OpenClaim := { program := "ytcpaenmhnoagdab", sum := "1f35d67133193d2d46f9a0681c86eb972c3461c201aa269b4234beb748baf0ad", func := "loop.example/g01064/laws.FnExactValidBeds", spec := "fnExactValidBeds", unfollowed := true, recurses := true, apart := false }
def FnExactValidBedsSaid : Prop := fnExactValidBedsRow.holds Try.pinned (OpenSpec.ofChange fnExactValidBedsSpec)

/-- ITS FALSE NEIGHBOUR: 'it returns false'. Refute it at one input. -/
def fnExactValidBedsWrong : ChangeSpec := { name := "fnExactValidBeds", fn := fun _ => fun
  | [d] => { results := [.lit (.bool false)], args := [d] }
  | _ => none }
def FnExactValidBedsWrongFalsely : Prop := fnExactValidBedsRow.holds Try.pinned (OpenSpec.ofChange fnExactValidBedsWrong)

/-- 'laws.FnExactBestCuts': WHATEVER THE INPUT: true; the input reads as it did. -/
def fnExactBestCutsSpec : ChangeSpec := { name := "fnExactBestCuts", fn := fun _ => fun
  | [d1, d2] => { results := [.lit (.bool true)], args := [d1, d2] }
  | _ => none }
def fnExactBestCutsRow : OpenClaim := { program := "ytcpaenmhnoagdab", sum := "1f35d67133193d2d46f9a0681c86eb972c3461c201aa269b4234beb748baf0ad", func := "loop.example/g01064/laws.FnExactBestCuts", spec := "fnExactBestCuts", apart := false }
def FnExactBestCutsSaid : Prop := fnExactBestCutsRow.holds Try.pinned (OpenSpec.ofChange fnExactBestCutsSpec)

/-- ITS FALSE NEIGHBOUR: 'it returns false'. Refute it at one input. -/
def fnExactBestCutsWrong : ChangeSpec := { name := "fnExactBestCuts", fn := fun _ => fun
  | [d1, d2] => { results := [.lit (.bool false)], args := [d1, d2] }
  | _ => none }
def FnExactBestCutsWrongFalsely : Prop := fnExactBestCutsRow.holds Try.pinned (OpenSpec.ofChange fnExactBestCutsWrong)

/-- 'laws.FnExactCutFor': WHATEVER THE INPUT: true; the input reads as it did. -/
def fnExactCutForSpec : ChangeSpec := { name := "fnExactCutFor", fn := fun _ => fun
  | [d1, d2] => { results := [.lit (.bool true)], args := [d1, d2] }
  | _ => none }
def fnExactCutForRow : OpenClaim := { program := "ytcpaenmhnoagdab", sum := "1f35d67133193d2d46f9a0681c86eb972c3461c201aa269b4234beb748baf0ad", func := "loop.example/g01064/laws.FnExactCutFor", spec := "fnExactCutFor", unfollowed := true, recurses := true, apart := false }
def FnExactCutForSaid : Prop := fnExactCutForRow.holds Try.pinned (OpenSpec.ofChange fnExactCutForSpec)

/-- ITS FALSE NEIGHBOUR: 'it returns false'. Refute it at one input. -/
def fnExactCutForWrong : ChangeSpec := { name := "fnExactCutFor", fn := fun _ => fun
  | [d1, d2] => { results := [.lit (.bool false)], args := [d1, d2] }
  | _ => none }
def FnExactCutForWrongFalsely : Prop := fnExactCutForRow.holds Try.pinned (OpenSpec.ofChange fnExactCutForWrong)

/-- 'laws.FnExactAfterYear': WHATEVER THE INPUT: true; the input reads as it did. -/
def fnExactAfterYearSpec : ChangeSpec := { name := "fnExactAfterYear", fn := fun _ => fun
  | [d1, d2] => { results := [.lit (.bool true)], args := [d1, d2] }
  | _ => none }
def fnExactAfterYearRow : OpenClaim := { program := "ytcpaenmhnoagdab", sum := "1f35d67133193d2d46f9a0681c86eb972c3461c201aa269b4234beb748baf0ad", func := "loop.example/g01064/laws.FnExactAfterYear", spec := "fnExactAfterYear", unfollowed := true, recurses := true, apart := false }
def FnExactAfterYearSaid : Prop := fnExactAfterYearRow.holds Try.pinned (OpenSpec.ofChange fnExactAfterYearSpec)

/-- ITS FALSE NEIGHBOUR: 'it returns false'. Refute it at one input. -/
def fnExactAfterYearWrong : ChangeSpec := { name := "fnExactAfterYear", fn := fun _ => fun
  | [d1, d2] => { results := [.lit (.bool false)], args := [d1, d2] }
  | _ => none }
def FnExactAfterYearWrongFalsely : Prop := fnExactAfterYearRow.holds Try.pinned (OpenSpec.ofChange fnExactAfterYearWrong)

/-- 'laws.FnExactSteadyNeed': WHATEVER THE INPUT: true; the input reads as it did. -/
def fnExactSteadyNeedSpec : ChangeSpec := { name := "fnExactSteadyNeed", fn := fun _ => fun
  | [d1, d2] => { results := [.lit (.bool true)], args := [d1, d2] }
  | _ => none }
def fnExactSteadyNeedRow : OpenClaim := { program := "ytcpaenmhnoagdab", sum := "1f35d67133193d2d46f9a0681c86eb972c3461c201aa269b4234beb748baf0ad", func := "loop.example/g01064/laws.FnExactSteadyNeed", spec := "fnExactSteadyNeed", unfollowed := true, recurses := true, apart := false }
def FnExactSteadyNeedSaid : Prop := fnExactSteadyNeedRow.holds Try.pinned (OpenSpec.ofChange fnExactSteadyNeedSpec)

/-- ITS FALSE NEIGHBOUR: 'it returns false'. Refute it at one input. -/
def fnExactSteadyNeedWrong : ChangeSpec := { name := "fnExactSteadyNeed", fn := fun _ => fun
  | [d1, d2] => { results := [.lit (.bool false)], args := [d1, d2] }
  | _ => none }
def FnExactSteadyNeedWrongFalsely : Prop := fnExactSteadyNeedRow.holds Try.pinned (OpenSpec.ofChange fnExactSteadyNeedWrong)

/-- 'laws.FnBeds': WHATEVER THE INPUT: true; the input reads as it did. -/
def fnBedsSpec : ChangeSpec := { name := "fnBeds", fn := fun _ => fun
  | [d] => { results := [.lit (.bool true)], args := [d] }
  | _ => none }
def fnBedsRow : OpenClaim := { program := "ytcpaenmhnoagdab", sum := "1f35d67133193d2d46f9a0681c86eb972c3461c201aa269b4234beb748baf0ad", func := "loop.example/g01064/laws.FnBeds", spec := "fnBeds", unfollowed := true, recurses := true, apart := false }
def FnBedsSaid : Prop := fnBedsRow.holds Try.pinned (OpenSpec.ofChange fnBedsSpec)

/-- ITS FALSE NEIGHBOUR: 'it returns false'. Refute it at one input. -/
def fnBedsWrong : ChangeSpec := { name := "fnBeds", fn := fun _ => fun
  | [d] => { results := [.lit (.bool false)], args := [d] }
  | _ => none }
def FnBedsWrongFalsely : Prop := fnBedsRow.holds Try.pinned (OpenSpec.ofChange fnBedsWrong)

/- THE SECOND FORM. 'bulk': how many values and letters a reading holds, each counted each time it is reached (what is shared counts as often as it is met; a slice's spare places count too). A statement '..UptoSaid' is the law's where the arguments, and the package variables that the reading takes, are together of bulk at most 1048576: NARROWER than '..Said'. Prove '..Said' where nothing that the law and all that it calls make is longer than what came in: it says more and counts as full. Else prove '..UptoSaid'. A law counts once. -/
mutual
def uptoBulk {H : Type} : DataW H → Nat
  | .lit (.string bytes) => bytes.length + 1
  | .lit _ => 1
  | .nil => 1
  | .ptr d => uptoBulk d + 1
  | .slice elems spare => uptoBulkAll elems + uptoBulkAll spare + 1
  | .agg parts => uptoBulkAll parts + 1
  | .iface _ d => uptoBulk d + 1
  | .map entries => uptoBulkEntries entries + 1
  | .held _ => 1
def uptoBulkAll {H : Type} : List (DataW H) → Nat
  | [] => 0
  | d :: r => uptoBulk d + uptoBulkAll r
def uptoBulkEntries {H : Type} : List (Lit × DataW H) → Nat
  | [] => 0
  | x :: r => uptoBulkEntry x + uptoBulkEntries r
def uptoBulkEntry {H : Type} : Lit × DataW H → Nat
  | (.string bytes, d) => bytes.length + uptoBulk d + 1
  | (_, d) => uptoBulk d + 1
 end
def uptoSmall : (H : Type) → List (DataW H) → Bool := fun _ ds => decide (uptoBulkAll ds ≤ 1048576)
def OpenSpec.upto (s : _root_.Go.ChangeSpec) : _root_.Go.OpenSpec := { _root_.Go.OpenSpec.ofChange s with cond := some uptoSmall }

/-- 'laws.FnExactValidRods', WHERE WHAT IT READS IS OF BULK AT MOST 1048576: true; the input reads as it did. -/
def fnExactValidRodsUptoRow : OpenClaim := { program := "ytcpaenmhnoagdab", sum := "1f35d67133193d2d46f9a0681c86eb972c3461c201aa269b4234beb748baf0ad", func := "loop.example/g01064/laws.FnExactValidRods", spec := "fnExactValidRods", unfollowed := true, recurses := true, apart := false, narrowed := true }
def FnExactValidRodsUptoSaid : Prop := fnExactValidRodsUptoRow.holds Try.pinned (OpenSpec.upto fnExactValidRodsSpec)

/-- 'laws.FnExactCountGrades', WHERE WHAT IT READS IS OF BULK AT MOST 1048576: true; the input reads as it did. -/
def fnExactCountGradesUptoRow : OpenClaim := { program := "ytcpaenmhnoagdab", sum := "1f35d67133193d2d46f9a0681c86eb972c3461c201aa269b4234beb748baf0ad", func := "loop.example/g01064/laws.FnExactCountGrades", spec := "fnExactCountGrades", unfollowed := true, recurses := true, apart := false, narrowed := true }
def FnExactCountGradesUptoSaid : Prop := fnExactCountGradesUptoRow.holds Try.pinned (OpenSpec.upto fnExactCountGradesSpec)

/-- 'laws.FnExactLongestFirst', WHERE WHAT IT READS IS OF BULK AT MOST 1048576: true; the input reads as it did. -/
def fnExactLongestFirstUptoRow : OpenClaim := { program := "ytcpaenmhnoagdab", sum := "1f35d67133193d2d46f9a0681c86eb972c3461c201aa269b4234beb748baf0ad", func := "loop.example/g01064/laws.FnExactLongestFirst", spec := "fnExactLongestFirst", inPlace := ["internal/reflectlite.ValueOf", "internal/reflectlite.Swapper", "(internal/reflectlite.Value).Len"], unfollowed := true, recurses := true, apart := false, narrowed := true }
def FnExactLongestFirstUptoSaid : Prop := fnExactLongestFirstUptoRow.holds Try.pinned (OpenSpec.upto fnExactLongestFirstSpec)

/-- 'laws.FnExactMostAlike', WHERE WHAT IT READS IS OF BULK AT MOST 1048576: true; the input reads as it did. -/
def fnExactMostAlikeUptoRow : OpenClaim := { program := "ytcpaenmhnoagdab", sum := "1f35d67133193d2d46f9a0681c86eb972c3461c201aa269b4234beb748baf0ad", func := "loop.example/g01064/laws.FnExactMostAlike", spec := "fnExactMostAlike", unfollowed := true, recurses := true, apart := false, narrowed := true }
def FnExactMostAlikeUptoSaid : Prop := fnExactMostAlikeUptoRow.holds Try.pinned (OpenSpec.upto fnExactMostAlikeSpec)

/-- 'laws.FnExactRodsBetween', WHERE WHAT IT READS IS OF BULK AT MOST 1048576: true; the input reads as it did. -/
def fnExactRodsBetweenUptoRow : OpenClaim := { program := "ytcpaenmhnoagdab", sum := "1f35d67133193d2d46f9a0681c86eb972c3461c201aa269b4234beb748baf0ad", func := "loop.example/g01064/laws.FnExactRodsBetween", spec := "fnExactRodsBetween", unfollowed := true, recurses := true, apart := false, narrowed := true }
def FnExactRodsBetweenUptoSaid : Prop := fnExactRodsBetweenUptoRow.holds Try.pinned (OpenSpec.upto fnExactRodsBetweenSpec)

/-- 'laws.FnGrades', WHERE WHAT IT READS IS OF BULK AT MOST 1048576: true; the input reads as it did. -/
def fnGradesUptoRow : OpenClaim := { program := "ytcpaenmhnoagdab", sum := "1f35d67133193d2d46f9a0681c86eb972c3461c201aa269b4234beb748baf0ad", func := "loop.example/g01064/laws.FnGrades", spec := "fnGrades", inPlace := ["internal/reflectlite.ValueOf", "internal/reflectlite.Swapper", "(internal/reflectlite.Value).Len"], unfollowed := true, recurses := true, apart := false, narrowed := true }
def FnGradesUptoSaid : Prop := fnGradesUptoRow.holds Try.pinned (OpenSpec.upto fnGradesSpec)

/-- 'laws.FnExactValidBeds', WHERE WHAT IT READS IS OF BULK AT MOST 1048576: true; the input reads as it did. -/
def fnExactValidBedsUptoRow : OpenClaim := { program := "ytcpaenmhnoagdab", sum := "1f35d67133193d2d46f9a0681c86eb972c3461c201aa269b4234beb748baf0ad", func := "loop.example/g01064/laws.FnExactValidBeds", spec := "fnExactValidBeds", unfollowed := true, recurses := true, apart := false, narrowed := true }
def FnExactValidBedsUptoSaid : Prop := fnExactValidBedsUptoRow.holds Try.pinned (OpenSpec.upto fnExactValidBedsSpec)

/-- 'laws.FnExactBestCuts', WHERE WHAT IT READS IS OF BULK AT MOST 1048576: true; the input reads as it did. -/
def fnExactBestCutsUptoRow : OpenClaim := { program := "ytcpaenmhnoagdab", sum := "1f35d67133193d2d46f9a0681c86eb972c3461c201aa269b4234beb748baf0ad", func := "loop.example/g01064/laws.FnExactBestCuts", spec := "fnExactBestCuts", apart := false, narrowed := true }
def FnExactBestCutsUptoSaid : Prop := fnExactBestCutsUptoRow.holds Try.pinned (OpenSpec.upto fnExactBestCutsSpec)

/-- 'laws.FnExactCutFor', WHERE WHAT IT READS IS OF BULK AT MOST 1048576: true; the input reads as it did. -/
def fnExactCutForUptoRow : OpenClaim := { program := "ytcpaenmhnoagdab", sum := "1f35d67133193d2d46f9a0681c86eb972c3461c201aa269b4234beb748baf0ad", func := "loop.example/g01064/laws.FnExactCutFor", spec := "fnExactCutFor", unfollowed := true, recurses := true, apart := false, narrowed := true }
def FnExactCutForUptoSaid : Prop := fnExactCutForUptoRow.holds Try.pinned (OpenSpec.upto fnExactCutForSpec)

/-- 'laws.FnExactAfterYear', WHERE WHAT IT READS IS OF BULK AT MOST 1048576: true; the input reads as it did. -/
def fnExactAfterYearUptoRow : OpenClaim := { program := "ytcpaenmhnoagdab", sum := "1f35d67133193d2d46f9a0681c86eb972c3461c201aa269b4234beb748baf0ad", func := "loop.example/g01064/laws.FnExactAfterYear", spec := "fnExactAfterYear", unfollowed := true, recurses := true, apart := false, narrowed := true }
def FnExactAfterYearUptoSaid : Prop := fnExactAfterYearUptoRow.holds Try.pinned (OpenSpec.upto fnExactAfterYearSpec)

/-- 'laws.FnExactSteadyNeed', WHERE WHAT IT READS IS OF BULK AT MOST 1048576: true; the input reads as it did. -/
def fnExactSteadyNeedUptoRow : OpenClaim := { program := "ytcpaenmhnoagdab", sum := "1f35d67133193d2d46f9a0681c86eb972c3461c201aa269b4234beb748baf0ad", func := "loop.example/g01064/laws.FnExactSteadyNeed", spec := "fnExactSteadyNeed", unfollowed := true, recurses := true, apart := false, narrowed := true }
def FnExactSteadyNeedUptoSaid : Prop := fnExactSteadyNeedUptoRow.holds Try.pinned (OpenSpec.upto fnExactSteadyNeedSpec)

/-- 'laws.FnBeds', WHERE WHAT IT READS IS OF BULK AT MOST 1048576: true; the input reads as it did. -/
def fnBedsUptoRow : OpenClaim := { program := "ytcpaenmhnoagdab", sum := "1f35d67133193d2d46f9a0681c86eb972c3461c201aa269b4234beb748baf0ad", func := "loop.example/g01064/laws.FnBeds", spec := "fnBeds", unfollowed := true, recurses := true, apart := false, narrowed := true }
def FnBedsUptoSaid : Prop := fnBedsUptoRow.holds Try.pinned (OpenSpec.upto fnBedsSpec)

end Rows
end Go.Proofs.Ytcpaenmhnoagdab
