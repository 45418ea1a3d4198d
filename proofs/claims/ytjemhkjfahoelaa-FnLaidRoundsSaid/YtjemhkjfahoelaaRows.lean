/-
  No cell of these rows narrows 'for every input' (looked for: loops, veiled, ifaces, maps, wideKeys, modest, calm, conditions, laid).
  DERIVED. THE GIVEN ROWS OF THIS SEAT. 7 by the template 'for every input the law returns true; each argument reads behind the call as it read before'; 0 by the template 'total and deterministic' (their statements: YtjemhkjfahoelaaTotals.lean).
  GIVEN WITH THE SEED: the statements are not yours to turn. If you find one false, say at which input.
  Laid BY PROGRAM, IN A SANDBOX (cutbox-rows.mjs): the forced cells as the released guide's own fill.sh prints them over the translation 1334f83b972206d9… (all of the seat's roots in one cut). By AI agents, Wed Nov 11 2026. No macro, syntax, notation, axiom, sorry.
-/
import Derived.Test.YtjemhkjfahoelaaChecked
import GoSem.Claim
import GoSem.ClaimJoined
import GoSem.ClaimMapViews
import Derived.JoinedTies
import Derived.KernelRfl
namespace Go.Proofs.Ytjemhkjfahoelaa
/- THE CELL 'sum', in the pinned program and in every row, IS THE sha256 OF THE DUMP (.gsa) THAT YtjemhkjfahoelaaProg.lean LOADS. Nothing in Lean hashes anything: it is a label: what it is worth is what the hold of that sum in a sandbox is worth. -/
noncomputable def Try.pinned : Pinned := { name := "ytjemhkjfahoelaa", sum := "1334f83b972206d9fcffbde932d7f9d2ac2ee085d43b309fa010ee94ff866fd6", checked := Try.checked }
namespace Rows
def none {H : Type} : Left H := { results := [], args := [] }

/-- 'laws.FnExactValidLaid': WHATEVER THE INPUT: true; the input reads as it did. -/
def fnExactValidLaidSpec : ChangeSpec := { name := "fnExactValidLaid", fn := fun _ => fun
  | [d1, d2] => { results := [.lit (.bool true)], args := [d1, d2] }
  | _ => none }
def fnExactValidLaidRow : OpenClaim := { program := "ytjemhkjfahoelaa", sum := "1334f83b972206d9fcffbde932d7f9d2ac2ee085d43b309fa010ee94ff866fd6", func := "loop.example/g01064/laws.FnExactValidLaid", spec := "fnExactValidLaid", unfollowed := true, recurses := true, apart := false }
def FnExactValidLaidSaid : Prop := fnExactValidLaidRow.holds Try.pinned (OpenSpec.ofChange fnExactValidLaidSpec)

/-- ITS FALSE NEIGHBOUR: 'it returns false'. Refute it at one input. -/
def fnExactValidLaidWrong : ChangeSpec := { name := "fnExactValidLaid", fn := fun _ => fun
  | [d1, d2] => { results := [.lit (.bool false)], args := [d1, d2] }
  | _ => none }
def FnExactValidLaidWrongFalsely : Prop := fnExactValidLaidRow.holds Try.pinned (OpenSpec.ofChange fnExactValidLaidWrong)

/-- 'laws.FnExactJoinsOf': WHATEVER THE INPUT: true; the input reads as it did. -/
def fnExactJoinsOfSpec : ChangeSpec := { name := "fnExactJoinsOf", fn := fun _ => fun
  | [d1, d2] => { results := [.lit (.bool true)], args := [d1, d2] }
  | _ => none }
def fnExactJoinsOfRow : OpenClaim := { program := "ytjemhkjfahoelaa", sum := "1334f83b972206d9fcffbde932d7f9d2ac2ee085d43b309fa010ee94ff866fd6", func := "loop.example/g01064/laws.FnExactJoinsOf", spec := "fnExactJoinsOf", unfollowed := true, recurses := true, apart := false }
def FnExactJoinsOfSaid : Prop := fnExactJoinsOfRow.holds Try.pinned (OpenSpec.ofChange fnExactJoinsOfSpec)

/-- ITS FALSE NEIGHBOUR: 'it returns false'. Refute it at one input. -/
def fnExactJoinsOfWrong : ChangeSpec := { name := "fnExactJoinsOf", fn := fun _ => fun
  | [d1, d2] => { results := [.lit (.bool false)], args := [d1, d2] }
  | _ => none }
def FnExactJoinsOfWrongFalsely : Prop := fnExactJoinsOfRow.holds Try.pinned (OpenSpec.ofChange fnExactJoinsOfWrong)

/-- 'laws.FnExactRoundsLaid': WHATEVER THE INPUT: true; the input reads as it did. -/
def fnExactRoundsLaidSpec : ChangeSpec := { name := "fnExactRoundsLaid", fn := fun _ => fun
  | [d1, d2] => { results := [.lit (.bool true)], args := [d1, d2] }
  | _ => none }
def fnExactRoundsLaidRow : OpenClaim := { program := "ytjemhkjfahoelaa", sum := "1334f83b972206d9fcffbde932d7f9d2ac2ee085d43b309fa010ee94ff866fd6", func := "loop.example/g01064/laws.FnExactRoundsLaid", spec := "fnExactRoundsLaid", unfollowed := true, recurses := true, apart := false }
def FnExactRoundsLaidSaid : Prop := fnExactRoundsLaidRow.holds Try.pinned (OpenSpec.ofChange fnExactRoundsLaidSpec)

/-- ITS FALSE NEIGHBOUR: 'it returns false'. Refute it at one input. -/
def fnExactRoundsLaidWrong : ChangeSpec := { name := "fnExactRoundsLaid", fn := fun _ => fun
  | [d1, d2] => { results := [.lit (.bool false)], args := [d1, d2] }
  | _ => none }
def FnExactRoundsLaidWrongFalsely : Prop := fnExactRoundsLaidRow.holds Try.pinned (OpenSpec.ofChange fnExactRoundsLaidWrong)

/-- 'laws.FnExactFirstAbove': WHATEVER THE INPUT: true; the input reads as it did. -/
def fnExactFirstAboveSpec : ChangeSpec := { name := "fnExactFirstAbove", fn := fun _ => fun
  | [d1, d2, d3] => { results := [.lit (.bool true)], args := [d1, d2, d3] }
  | _ => none }
def fnExactFirstAboveRow : OpenClaim := { program := "ytjemhkjfahoelaa", sum := "1334f83b972206d9fcffbde932d7f9d2ac2ee085d43b309fa010ee94ff866fd6", func := "loop.example/g01064/laws.FnExactFirstAbove", spec := "fnExactFirstAbove", unfollowed := true, recurses := true, apart := false }
def FnExactFirstAboveSaid : Prop := fnExactFirstAboveRow.holds Try.pinned (OpenSpec.ofChange fnExactFirstAboveSpec)

/-- ITS FALSE NEIGHBOUR: 'it returns false'. Refute it at one input. -/
def fnExactFirstAboveWrong : ChangeSpec := { name := "fnExactFirstAbove", fn := fun _ => fun
  | [d1, d2, d3] => { results := [.lit (.bool false)], args := [d1, d2, d3] }
  | _ => none }
def FnExactFirstAboveWrongFalsely : Prop := fnExactFirstAboveRow.holds Try.pinned (OpenSpec.ofChange fnExactFirstAboveWrong)

/-- 'laws.FnExactCountAbove': WHATEVER THE INPUT: true; the input reads as it did. -/
def fnExactCountAboveSpec : ChangeSpec := { name := "fnExactCountAbove", fn := fun _ => fun
  | [d1, d2, d3] => { results := [.lit (.bool true)], args := [d1, d2, d3] }
  | _ => none }
def fnExactCountAboveRow : OpenClaim := { program := "ytjemhkjfahoelaa", sum := "1334f83b972206d9fcffbde932d7f9d2ac2ee085d43b309fa010ee94ff866fd6", func := "loop.example/g01064/laws.FnExactCountAbove", spec := "fnExactCountAbove", unfollowed := true, recurses := true, apart := false }
def FnExactCountAboveSaid : Prop := fnExactCountAboveRow.holds Try.pinned (OpenSpec.ofChange fnExactCountAboveSpec)

/-- ITS FALSE NEIGHBOUR: 'it returns false'. Refute it at one input. -/
def fnExactCountAboveWrong : ChangeSpec := { name := "fnExactCountAbove", fn := fun _ => fun
  | [d1, d2, d3] => { results := [.lit (.bool false)], args := [d1, d2, d3] }
  | _ => none }
def FnExactCountAboveWrongFalsely : Prop := fnExactCountAboveRow.holds Try.pinned (OpenSpec.ofChange fnExactCountAboveWrong)

/-- 'laws.FnExactStakesForRods': WHATEVER THE INPUT: true; the input reads as it did. -/
def fnExactStakesForRodsSpec : ChangeSpec := { name := "fnExactStakesForRods", fn := fun _ => fun
  | [d1, d2, d3] => { results := [.lit (.bool true)], args := [d1, d2, d3] }
  | _ => none }
def fnExactStakesForRodsRow : OpenClaim := { program := "ytjemhkjfahoelaa", sum := "1334f83b972206d9fcffbde932d7f9d2ac2ee085d43b309fa010ee94ff866fd6", func := "loop.example/g01064/laws.FnExactStakesForRods", spec := "fnExactStakesForRods", unfollowed := true, recurses := true, apart := false }
def FnExactStakesForRodsSaid : Prop := fnExactStakesForRodsRow.holds Try.pinned (OpenSpec.ofChange fnExactStakesForRodsSpec)

/-- ITS FALSE NEIGHBOUR: 'it returns false'. Refute it at one input. -/
def fnExactStakesForRodsWrong : ChangeSpec := { name := "fnExactStakesForRods", fn := fun _ => fun
  | [d1, d2, d3] => { results := [.lit (.bool false)], args := [d1, d2, d3] }
  | _ => none }
def FnExactStakesForRodsWrongFalsely : Prop := fnExactStakesForRodsRow.holds Try.pinned (OpenSpec.ofChange fnExactStakesForRodsWrong)

/-- 'laws.FnLaidRounds': WHATEVER THE INPUT: true; the input reads as it did. -/
def fnLaidRoundsSpec : ChangeSpec := { name := "fnLaidRounds", fn := fun _ => fun
  | [d1, d2] => { results := [.lit (.bool true)], args := [d1, d2] }
  | _ => none }
def fnLaidRoundsRow : OpenClaim := { program := "ytjemhkjfahoelaa", sum := "1334f83b972206d9fcffbde932d7f9d2ac2ee085d43b309fa010ee94ff866fd6", func := "loop.example/g01064/laws.FnLaidRounds", spec := "fnLaidRounds", unfollowed := true, recurses := true, apart := false }
def FnLaidRoundsSaid : Prop := fnLaidRoundsRow.holds Try.pinned (OpenSpec.ofChange fnLaidRoundsSpec)

/-- ITS FALSE NEIGHBOUR: 'it returns false'. Refute it at one input. -/
def fnLaidRoundsWrong : ChangeSpec := { name := "fnLaidRounds", fn := fun _ => fun
  | [d1, d2] => { results := [.lit (.bool false)], args := [d1, d2] }
  | _ => none }
def FnLaidRoundsWrongFalsely : Prop := fnLaidRoundsRow.holds Try.pinned (OpenSpec.ofChange fnLaidRoundsWrong)

/- THE SECOND FORM. 'bulk': how many values and letters a reading holds, each counted each time it is reached (what is shared counts as often as it is met; a slice's spare places count too). A statement '..UptoSaid' is the law's where the arguments, and the package variables that the reading takes, are together of bulk at most 1048576: NARROWER than '..Said'. Prove '..Said' where nothing that the law and all that it calls make is longer than what came in: it says more and counts as full. Else prove '..UptoSaid'. A law counts once. -/
mutual
def uptoBulk {H : Type} : DataW H → Nat
  | .lit (.string bytes) => bytes.length + 1
  | .lit _ => 1
  | .nil => 1
  | .ptr d => uptoBulk d + 1
  | .slice elems spare => uptoBulkAll elems + uptoBulkAll spare + 1
  | .agg parts => uptoBulkAll parts + 1
  | .iface _ d => uptoBulk d + 1
  | .map entries => uptoBulkEntries entries + 1
  | .held _ => 1
def uptoBulkAll {H : Type} : List (DataW H) → Nat
  | [] => 0
  | d :: r => uptoBulk d + uptoBulkAll r
def uptoBulkEntries {H : Type} : List (Lit × DataW H) → Nat
  | [] => 0
  | x :: r => uptoBulkEntry x + uptoBulkEntries r
def uptoBulkEntry {H : Type} : Lit × DataW H → Nat
  | (.string bytes, d) => bytes.length + uptoBulk d + 1
  | (_, d) => uptoBulk d + 1
 end
def uptoSmall : (H : Type) → List (DataW H) → Bool := fun _ ds => decide (uptoBulkAll ds ≤ 1048576)
def OpenSpec.upto (s : _root_.Go.ChangeSpec) : _root_.Go.OpenSpec := { _root_.Go.OpenSpec.ofChange s with cond := some uptoSmall }

/-- 'laws.FnExactValidLaid', WHERE WHAT IT READS IS OF BULK AT MOST 1048576: true; the input reads as it did. -/
def fnExactValidLaidUptoRow : OpenClaim := { program := "ytjemhkjfahoelaa", sum := "1334f83b972206d9fcffbde932d7f9d2ac2ee085d43b309fa010ee94ff866fd6", func := "loop.example/g01064/laws.FnExactValidLaid", spec := "fnExactValidLaid", unfollowed := true, recurses := true, apart := false, narrowed := true }
def FnExactValidLaidUptoSaid : Prop := fnExactValidLaidUptoRow.holds Try.pinned (OpenSpec.upto fnExactValidLaidSpec)

/-- 'laws.FnExactJoinsOf', WHERE WHAT IT READS IS OF BULK AT MOST 1048576: true; the input reads as it did. -/
def fnExactJoinsOfUptoRow : OpenClaim := { program := "ytjemhkjfahoelaa", sum := "1334f83b972206d9fcffbde932d7f9d2ac2ee085d43b309fa010ee94ff866fd6", func := "loop.example/g01064/laws.FnExactJoinsOf", spec := "fnExactJoinsOf", unfollowed := true, recurses := true, apart := false, narrowed := true }
def FnExactJoinsOfUptoSaid : Prop := fnExactJoinsOfUptoRow.holds Try.pinned (OpenSpec.upto fnExactJoinsOfSpec)

/-- 'laws.FnExactRoundsLaid', WHERE WHAT IT READS IS OF BULK AT MOST 1048576: true; the input reads as it did. -/
def fnExactRoundsLaidUptoRow : OpenClaim := { program := "ytjemhkjfahoelaa", sum := "1334f83b972206d9fcffbde932d7f9d2ac2ee085d43b309fa010ee94ff866fd6", func := "loop.example/g01064/laws.FnExactRoundsLaid", spec := "fnExactRoundsLaid", unfollowed := true, recurses := true, apart := false, narrowed := true }
def FnExactRoundsLaidUptoSaid : Prop := fnExactRoundsLaidUptoRow.holds Try.pinned (OpenSpec.upto fnExactRoundsLaidSpec)

/-- 'laws.FnExactFirstAbove', WHERE WHAT IT READS IS OF BULK AT MOST 1048576: true; the input reads as it did. -/
def fnExactFirstAboveUptoRow : OpenClaim := { program := "ytjemhkjfahoelaa", sum := "1334f83b972206d9fcffbde932d7f9d2ac2ee085d43b309fa010ee94ff866fd6", func := "loop.example/g01064/laws.FnExactFirstAbove", spec := "fnExactFirstAbove", unfollowed := true, recurses := true, apart := false, narrowed := true }
def FnExactFirstAboveUptoSaid : Prop := fnExactFirstAboveUptoRow.holds Try.pinned (OpenSpec.upto fnExactFirstAboveSpec)

/-- 'laws.FnExactCountAbove', WHERE WHAT IT READS IS OF BULK AT MOST 1048576: true; the input reads as it did. -/
def fnExactCountAboveUptoRow : OpenClaim := { program := "ytjemhkjfahoelaa", sum := "1334f83b972206d9fcffbde932d7f9d2ac2ee085d43b309fa010ee94ff866fd6", func := "loop.example/g01064/laws.FnExactCountAbove", spec := "fnExactCountAbove", unfollowed := true, recurses := true, apart := false, narrowed := true }
def FnExactCountAboveUptoSaid : Prop := fnExactCountAboveUptoRow.holds Try.pinned (OpenSpec.upto fnExactCountAboveSpec)

/-- 'laws.FnExactStakesForRods', WHERE WHAT IT READS IS OF BULK AT MOST 1048576: true; the input reads as it did. -/
def fnExactStakesForRodsUptoRow : OpenClaim := { program := "ytjemhkjfahoelaa", sum := "1334f83b972206d9fcffbde932d7f9d2ac2ee085d43b309fa010ee94ff866fd6", func := "loop.example/g01064/laws.FnExactStakesForRods", spec := "fnExactStakesForRods", unfollowed := true, recurses := true, apart := false, narrowed := true }
def FnExactStakesForRodsUptoSaid : Prop := fnExactStakesForRodsUptoRow.holds Try.pinned (OpenSpec.upto fnExactStakesForRodsSpec)

/-- 'laws.FnLaidRounds', WHERE WHAT IT READS IS OF BULK AT MOST 1048576: true; the input reads as it did. -/
def fnLaidRoundsUptoRow : OpenClaim := { program := "ytjemhkjfahoelaa", sum := "1334f83b972206d9fcffbde932d7f9d2ac2ee085d43b309fa010ee94ff866fd6", func := "loop.example/g01064/laws.FnLaidRounds", spec := "fnLaidRounds", unfollowed := true, recurses := true, apart := false, narrowed := true }
def FnLaidRoundsUptoSaid : Prop := fnLaidRoundsUptoRow.holds Try.pinned (OpenSpec.upto fnLaidRoundsSpec)

end Rows
end Go.Proofs.Ytjemhkjfahoelaa
