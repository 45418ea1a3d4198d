/-
  No cell of these rows narrows 'for every input' (looked for: loops, veiled, ifaces, maps, wideKeys, modest, calm, conditions, laid).
  DERIVED. THE GIVEN ROWS OF THIS SEAT. 6 by the template 'for every input the law returns true; each argument reads behind the call as it read before'; 0 by the template 'total and deterministic' (their statements: YtmaakconbaiagabTotals.lean).
  GIVEN WITH THE SEED: the statements are not yours to turn. If you find one false, say at which input.
  Laid BY PROGRAM, IN A SANDBOX (cutbox-rows.mjs): the forced cells as the released guide's own fill.sh prints them over the translation 5d73e8de6db6cf79… (all of the seat's roots in one cut). By AI agents, Wed Nov 11 2026. No macro, syntax, notation, axiom, sorry.
-/
import Derived.Test.YtmaakconbaiagabChecked
import GoSem.Claim
import GoSem.ClaimJoined
import GoSem.ClaimMapViews
import Derived.JoinedTies
import Derived.KernelRfl
namespace Go.Proofs.Ytmaakconbaiagab
/- THE CELL 'sum', in the pinned program and in every row, IS THE sha256 OF THE DUMP (.gsa) THAT YtmaakconbaiagabProg.lean LOADS. Nothing in Lean hashes anything: it is a label: what it is worth is what the hold of that sum in a sandbox is worth. -/
noncomputable def Try.pinned : Pinned := { name := "ytmaakconbaiagab", sum := "5d73e8de6db6cf7966044f132075f46b1ebd1e5ca2fa0468e74e4e2c4ec10d6a", checked := Try.checked }
namespace Rows
def none {H : Type} : Left H := { results := [], args := [] }

/-- 'laws.FnExactGradeOf': WHATEVER THE INPUT: true; the input reads as it did. -/
def fnExactGradeOfSpec : ChangeSpec := { name := "fnExactGradeOf", fn := fun _ => fun
  | [d1, d2] => { results := [.lit (.bool true)], args := [d1, d2] }
  | _ => none }
def fnExactGradeOfRow : OpenClaim := { program := "ytmaakconbaiagab", sum := "5d73e8de6db6cf7966044f132075f46b1ebd1e5ca2fa0468e74e4e2c4ec10d6a", func := "loop.example/g01064/laws.FnExactGradeOf", spec := "fnExactGradeOf", apart := false }
def FnExactGradeOfSaid : Prop := fnExactGradeOfRow.holds Try.pinned (OpenSpec.ofChange fnExactGradeOfSpec)

/-- ITS FALSE NEIGHBOUR: 'it returns false'. Refute it at one input. -/
def fnExactGradeOfWrong : ChangeSpec := { name := "fnExactGradeOf", fn := fun _ => fun
  | [d1, d2] => { results := [.lit (.bool false)], args := [d1, d2] }
  | _ => none }
def FnExactGradeOfWrongFalsely : Prop := fnExactGradeOfRow.holds Try.pinned (OpenSpec.ofChange fnExactGradeOfWrong)

/-- 'laws.FnExactCountGrades': WHATEVER THE INPUT: true; the input reads as it did. -/
def fnExactCountGradesSpec : ChangeSpec := { name := "fnExactCountGrades", fn := fun _ => fun
  | [d1, d2] => { results := [.lit (.bool true)], args := [d1, d2] }
  | _ => none }
def fnExactCountGradesRow : OpenClaim := { program := "ytmaakconbaiagab", sum := "5d73e8de6db6cf7966044f132075f46b1ebd1e5ca2fa0468e74e4e2c4ec10d6a", func := "loop.example/g01064/laws.FnExactCountGrades", spec := "fnExactCountGrades", apart := false }
def FnExactCountGradesSaid : Prop := fnExactCountGradesRow.holds Try.pinned (OpenSpec.ofChange fnExactCountGradesSpec)

/-- ITS FALSE NEIGHBOUR: 'it returns false'. Refute it at one input. -/
def fnExactCountGradesWrong : ChangeSpec := { name := "fnExactCountGrades", fn := fun _ => fun
  | [d1, d2] => { results := [.lit (.bool false)], args := [d1, d2] }
  | _ => none }
def FnExactCountGradesWrongFalsely : Prop := fnExactCountGradesRow.holds Try.pinned (OpenSpec.ofChange fnExactCountGradesWrong)

/-- 'laws.FnExactLongestFirst': WHATEVER THE INPUT: true; the input reads as it did. -/
def fnExactLongestFirstSpec : ChangeSpec := { name := "fnExactLongestFirst", fn := fun _ => fun
  | [d] => { results := [.lit (.bool true)], args := [d] }
  | _ => none }
def fnExactLongestFirstRow : OpenClaim := { program := "ytmaakconbaiagab", sum := "5d73e8de6db6cf7966044f132075f46b1ebd1e5ca2fa0468e74e4e2c4ec10d6a", func := "loop.example/g01064/laws.FnExactLongestFirst", spec := "fnExactLongestFirst", inPlace := ["internal/reflectlite.ValueOf", "internal/reflectlite.Swapper", "(internal/reflectlite.Value).Len"], unfollowed := true, recurses := true, apart := false }
def FnExactLongestFirstSaid : Prop := fnExactLongestFirstRow.holds Try.pinned (OpenSpec.ofChange fnExactLongestFirstSpec)

/-- ITS FALSE NEIGHBOUR: 'it returns false'. Refute it at one input. -/
def fnExactLongestFirstWrong : ChangeSpec := { name := "fnExactLongestFirst", fn := fun _ => fun
  | [d] => { results := [.lit (.bool false)], args := [d] }
  | _ => none }
def FnExactLongestFirstWrongFalsely : Prop := fnExactLongestFirstRow.holds Try.pinned (OpenSpec.ofChange fnExactLongestFirstWrong)

/-- 'laws.FnExactMostAlike': WHATEVER THE INPUT: true; the input reads as it did. -/
def fnExactMostAlikeSpec : ChangeSpec := { name := "fnExactMostAlike", fn := fun _ => fun
  | [d] => { results := [.lit (.bool true)], args := [d] }
  | _ => none }
def fnExactMostAlikeRow : OpenClaim := { program := "ytmaakconbaiagab", sum := "5d73e8de6db6cf7966044f132075f46b1ebd1e5ca2fa0468e74e4e2c4ec10d6a", func := "loop.example/g01064/laws.FnExactMostAlike", spec := "fnExactMostAlike", apart := false }
def FnExactMostAlikeSaid : Prop := fnExactMostAlikeRow.holds Try.pinned (OpenSpec.ofChange fnExactMostAlikeSpec)

/-- ITS FALSE NEIGHBOUR: 'it returns false'. Refute it at one input. -/
def fnExactMostAlikeWrong : ChangeSpec := { name := "fnExactMostAlike", fn := fun _ => fun
  | [d] => { results := [.lit (.bool false)], args := [d] }
  | _ => none }
def FnExactMostAlikeWrongFalsely : Prop := fnExactMostAlikeRow.holds Try.pinned (OpenSpec.ofChange fnExactMostAlikeWrong)

/-- 'laws.FnExactRodsBetween': WHATEVER THE INPUT: true; the input reads as it did. -/
def fnExactRodsBetweenSpec : ChangeSpec := { name := "fnExactRodsBetween", fn := fun _ => fun
  | [d1, d2, d3] => { results := [.lit (.bool true)], args := [d1, d2, d3] }
  | _ => none }
def fnExactRodsBetweenRow : OpenClaim := { program := "ytmaakconbaiagab", sum := "5d73e8de6db6cf7966044f132075f46b1ebd1e5ca2fa0468e74e4e2c4ec10d6a", func := "loop.example/g01064/laws.FnExactRodsBetween", spec := "fnExactRodsBetween", apart := false }
def FnExactRodsBetweenSaid : Prop := fnExactRodsBetweenRow.holds Try.pinned (OpenSpec.ofChange fnExactRodsBetweenSpec)

/-- ITS FALSE NEIGHBOUR: 'it returns false'. Refute it at one input. -/
def fnExactRodsBetweenWrong : ChangeSpec := { name := "fnExactRodsBetween", fn := fun _ => fun
  | [d1, d2, d3] => { results := [.lit (.bool false)], args := [d1, d2, d3] }
  | _ => none }
def FnExactRodsBetweenWrongFalsely : Prop := fnExactRodsBetweenRow.holds Try.pinned (OpenSpec.ofChange fnExactRodsBetweenWrong)

/-- 'laws.FnGrades': WHATEVER THE INPUT: true; the input reads as it did. -/
def fnGradesSpec : ChangeSpec := { name := "fnGrades", fn := fun _ => fun
  | [d1, d2] => { results := [.lit (.bool true)], args := [d1, d2] }
  | _ => none }
def fnGradesRow : OpenClaim := { program := "ytmaakconbaiagab", sum := "5d73e8de6db6cf7966044f132075f46b1ebd1e5ca2fa0468e74e4e2c4ec10d6a", func := "loop.example/g01064/laws.FnGrades", spec := "fnGrades", inPlace := ["internal/reflectlite.ValueOf", "internal/reflectlite.Swapper", "(internal/reflectlite.Value).Len"], unfollowed := true, recurses := true, apart := false }
def FnGradesSaid : Prop := fnGradesRow.holds Try.pinned (OpenSpec.ofChange fnGradesSpec)

/-- ITS FALSE NEIGHBOUR: 'it returns false'. Refute it at one input. -/
def fnGradesWrong : ChangeSpec := { name := "fnGrades", fn := fun _ => fun
  | [d1, d2] => { results := [.lit (.bool false)], args := [d1, d2] }
  | _ => none }
def FnGradesWrongFalsely : Prop := fnGradesRow.holds Try.pinned (OpenSpec.ofChange fnGradesWrong)

/- THE SECOND FORM. 'bulk': how many values and letters a reading holds, each counted each time it is reached (what is shared counts as often as it is met; a slice's spare places count too). A statement '..UptoSaid' is the law's where the arguments, and the package variables that the reading takes, are together of bulk at most 1048576: NARROWER than '..Said'. Prove '..Said' where nothing that the law and all that it calls make is longer than what came in: it says more and counts as full. Else prove '..UptoSaid'. A law counts once. -/
mutual
def uptoBulk {H : Type} : DataW H → Nat
  | .lit (.string bytes) => bytes.length + 1
  | .lit _ => 1
  | .nil => 1
  | .ptr d => uptoBulk d + 1
  | .slice elems spare => uptoBulkAll elems + uptoBulkAll spare + 1
  | .agg parts => uptoBulkAll parts + 1
  | .iface _ d => uptoBulk d + 1
  | .map entries => uptoBulkEntries entries + 1
  | .held _ => 1
def uptoBulkAll {H : Type} : List (DataW H) → Nat
  | [] => 0
  | d :: r => uptoBulk d + uptoBulkAll r
def uptoBulkEntries {H : Type} : List (Lit × DataW H) → Nat
  | [] => 0
  | x :: r => uptoBulkEntry x + uptoBulkEntries r
def uptoBulkEntry {H : Type} : Lit × DataW H → Nat
  | (.string bytes, d) => bytes.length + uptoBulk d + 1
  | (_, d) => uptoBulk d + 1
 end
def uptoSmall : (H : Type) → List (DataW H) → Bool := fun _ ds => decide (uptoBulkAll ds ≤ 1048576)
def OpenSpec.upto (s : _root_.Go.ChangeSpec) : _root_.Go.OpenSpec := { _root_.Go.OpenSpec.ofChange s with cond := some uptoSmall }

/-- 'laws.FnExactGradeOf', WHERE WHAT IT READS IS OF BULK AT MOST 1048576: true; the input reads as it did. -/
def fnExactGradeOfUptoRow : OpenClaim := { program := "ytmaakconbaiagab", sum := "5d73e8de6db6cf7966044f132075f46b1ebd1e5ca2fa0468e74e4e2c4ec10d6a", func := "loop.example/g01064/laws.FnExactGradeOf", spec := "fnExactGradeOf", apart := false, narrowed := true }
def FnExactGradeOfUptoSaid : Prop := fnExactGradeOfUptoRow.holds Try.pinned (OpenSpec.upto fnExactGradeOfSpec)

/-- 'laws.FnExactCountGrades', WHERE WHAT IT READS IS OF BULK AT MOST 1048576: true; the input reads as it did. -/
def fnExactCountGradesUptoRow : OpenClaim := { program := "ytmaakconbaiagab", sum := "5d73e8de6db6cf7966044f132075f46b1ebd1e5ca2fa0468e74e4e2c4ec10d6a", func := "loop.example/g01064/laws.FnExactCountGrades", spec := "fnExactCountGrades", apart := false, narrowed := true }
def FnExactCountGradesUptoSaid : Prop := fnExactCountGradesUptoRow.holds Try.pinned (OpenSpec.upto fnExactCountGradesSpec)

/-- 'laws.FnExactLongestFirst', WHERE WHAT IT READS IS OF BULK AT MOST 1048576: true; the input reads as it did. -/
def fnExactLongestFirstUptoRow : OpenClaim := { program := "ytmaakconbaiagab", sum := "5d73e8de6db6cf7966044f132075f46b1ebd1e5ca2fa0468e74e4e2c4ec10d6a", func := "loop.example/g01064/laws.FnExactLongestFirst", spec := "fnExactLongestFirst", inPlace := ["internal/reflectlite.ValueOf", "internal/reflectlite.Swapper", "(internal/reflectlite.Value).Len"], unfollowed := true, recurses := true, apart := false, narrowed := true }
def FnExactLongestFirstUptoSaid : Prop := fnExactLongestFirstUptoRow.holds Try.pinned (OpenSpec.upto fnExactLongestFirstSpec)

/-- 'laws.FnExactMostAlike', WHERE WHAT IT READS IS OF BULK AT MOST 1048576: true; the input reads as it did. -/
def fnExactMostAlikeUptoRow : OpenClaim := { program := "ytmaakconbaiagab", sum := "5d73e8de6db6cf7966044f132075f46b1ebd1e5ca2fa0468e74e4e2c4ec10d6a", func := "loop.example/g01064/laws.FnExactMostAlike", spec := "fnExactMostAlike", apart := false, narrowed := true }
def FnExactMostAlikeUptoSaid : Prop := fnExactMostAlikeUptoRow.holds Try.pinned (OpenSpec.upto fnExactMostAlikeSpec)

/-- 'laws.FnExactRodsBetween', WHERE WHAT IT READS IS OF BULK AT MOST 1048576: true; the input reads as it did. -/
def fnExactRodsBetweenUptoRow : OpenClaim := { program := "ytmaakconbaiagab", sum := "5d73e8de6db6cf7966044f132075f46b1ebd1e5ca2fa0468e74e4e2c4ec10d6a", func := "loop.example/g01064/laws.FnExactRodsBetween", spec := "fnExactRodsBetween", apart := false, narrowed := true }
def FnExactRodsBetweenUptoSaid : Prop := fnExactRodsBetweenUptoRow.holds Try.pinned (OpenSpec.upto fnExactRodsBetweenSpec)

/-- 'laws.FnGrades', WHERE WHAT IT READS IS OF BULK AT MOST 1048576: true; the input reads as it did. -/
def fnGradesUptoRow : OpenClaim := { program := "ytmaakconbaiagab", sum := "5d73e8de6db6cf7966044f132075f46b1ebd1e5ca2fa0468e74e4e2c4ec10d6a", func := "loop.example/g01064/laws.FnGrades", spec := "fnGrades", inPlace := ["internal/reflectlite.ValueOf", "internal/reflectlite.Swapper", "(internal/reflectlite.Value).Len"], unfollowed := true, recurses := true, apart := false, narrowed := true }
def FnGradesUptoSaid : Prop := fnGradesUptoRow.holds Try.pinned (OpenSpec.upto fnGradesSpec)

end Rows
end Go.Proofs.Ytmaakconbaiagab
