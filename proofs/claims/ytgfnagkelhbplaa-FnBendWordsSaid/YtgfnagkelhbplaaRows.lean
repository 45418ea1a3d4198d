/-
  No cell of these rows narrows 'for every input' (looked for: loops, veiled, ifaces, maps, wideKeys, modest, calm, conditions, laid).
  DERIVED. THE GIVEN ROWS OF THIS SEAT. 12 by the template 'for every input the law returns true; each argument reads behind the call as it read before'; 0 by the template 'total and deterministic' (their statements: YtgfnagkelhbplaaTotals.lean).
  GIVEN WITH THE SEED: the statements are not yours to turn. If you find one false, say at which input.
  Laid BY PROGRAM, IN A SANDBOX (cutbox-rows.mjs): the forced cells as the released guide's own fill.sh prints them over the translation 4653174a26e6185f… (all of the seat's roots in one cut). By AI agents, Wed Nov 11 2026. No macro, syntax, notation, axiom, sorry.
-/
import Derived.Test.YtgfnagkelhbplaaChecked
import GoSem.Claim
import GoSem.ClaimJoined
import GoSem.ClaimMapViews
import Derived.JoinedTies
import Derived.KernelRfl
namespace Go.Proofs.Ytgfnagkelhbplaa
/- THE CELL 'sum', in the pinned program and in every row, IS THE sha256 OF THE DUMP (.gsa) THAT YtgfnagkelhbplaaProg.lean LOADS. Nothing in Lean hashes anything: it is a label: what it is worth is what the hold of that sum in a sandbox is worth. -/
noncomputable def Try.pinned : Pinned := { name := "ytgfnagkelhbplaa", sum := "4653174a26e6185fdefb0bd301138254989fb372bdce7471eb429951923a4508", checked := Try.checked }
namespace Rows
def none {H : Type} : Left H := { results := [], args := [] }

/-- 'laws.FnExactValidBends': WHATEVER THE INPUT: true; the input reads as it did. -/
def fnExactValidBendsSpec : ChangeSpec := { name := "fnExactValidBends", fn := fun _ => fun
  | [d] => { results := [.lit (.bool true)], args := [d] }
  | _ => none }
def fnExactValidBendsRow : OpenClaim := { program := "ytgfnagkelhbplaa", sum := "4653174a26e6185fdefb0bd301138254989fb372bdce7471eb429951923a4508", func := "loop.example/g01064/laws.FnExactValidBends", spec := "fnExactValidBends", inPlace := ["internal/bytealg.IndexByteString", "internal/bytealg.IndexString"], unfollowed := true, recurses := true, named := ["internal/bytealg.MaxLen"], apart := false }
def FnExactValidBendsSaid : Prop := fnExactValidBendsRow.holds Try.pinned (OpenSpec.ofChange fnExactValidBendsSpec)

/-- ITS FALSE NEIGHBOUR: 'it returns false'. Refute it at one input. -/
def fnExactValidBendsWrong : ChangeSpec := { name := "fnExactValidBends", fn := fun _ => fun
  | [d] => { results := [.lit (.bool false)], args := [d] }
  | _ => none }
def FnExactValidBendsWrongFalsely : Prop := fnExactValidBendsRow.holds Try.pinned (OpenSpec.ofChange fnExactValidBendsWrong)

/-- 'laws.FnExactEndOfBend': WHATEVER THE INPUT: true; the input reads as it did. -/
def fnExactEndOfBendSpec : ChangeSpec := { name := "fnExactEndOfBend", fn := fun _ => fun
  | [d1, d2, d3] => { results := [.lit (.bool true)], args := [d1, d2, d3] }
  | _ => none }
def fnExactEndOfBendRow : OpenClaim := { program := "ytgfnagkelhbplaa", sum := "4653174a26e6185fdefb0bd301138254989fb372bdce7471eb429951923a4508", func := "loop.example/g01064/laws.FnExactEndOfBend", spec := "fnExactEndOfBend", inPlace := ["internal/bytealg.IndexByteString", "internal/bytealg.IndexString"], unfollowed := true, recurses := true, named := ["internal/bytealg.MaxLen"], apart := false }
def FnExactEndOfBendSaid : Prop := fnExactEndOfBendRow.holds Try.pinned (OpenSpec.ofChange fnExactEndOfBendSpec)

/-- ITS FALSE NEIGHBOUR: 'it returns false'. Refute it at one input. -/
def fnExactEndOfBendWrong : ChangeSpec := { name := "fnExactEndOfBend", fn := fun _ => fun
  | [d1, d2, d3] => { results := [.lit (.bool false)], args := [d1, d2, d3] }
  | _ => none }
def FnExactEndOfBendWrongFalsely : Prop := fnExactEndOfBendRow.holds Try.pinned (OpenSpec.ofChange fnExactEndOfBendWrong)

/-- 'laws.FnExactCoversOf': WHATEVER THE INPUT: true; the input reads as it did. -/
def fnExactCoversOfSpec : ChangeSpec := { name := "fnExactCoversOf", fn := fun _ => fun
  | [d1, d2, d3] => { results := [.lit (.bool true)], args := [d1, d2, d3] }
  | _ => none }
def fnExactCoversOfRow : OpenClaim := { program := "ytgfnagkelhbplaa", sum := "4653174a26e6185fdefb0bd301138254989fb372bdce7471eb429951923a4508", func := "loop.example/g01064/laws.FnExactCoversOf", spec := "fnExactCoversOf", inPlace := ["internal/bytealg.IndexByteString", "internal/bytealg.IndexString"], unfollowed := true, recurses := true, named := ["internal/bytealg.MaxLen"], apart := false }
def FnExactCoversOfSaid : Prop := fnExactCoversOfRow.holds Try.pinned (OpenSpec.ofChange fnExactCoversOfSpec)

/-- ITS FALSE NEIGHBOUR: 'it returns false'. Refute it at one input. -/
def fnExactCoversOfWrong : ChangeSpec := { name := "fnExactCoversOf", fn := fun _ => fun
  | [d1, d2, d3] => { results := [.lit (.bool false)], args := [d1, d2, d3] }
  | _ => none }
def FnExactCoversOfWrongFalsely : Prop := fnExactCoversOfRow.holds Try.pinned (OpenSpec.ofChange fnExactCoversOfWrong)

/-- 'laws.FnExactIsLocked': WHATEVER THE INPUT: true; the input reads as it did. -/
def fnExactIsLockedSpec : ChangeSpec := { name := "fnExactIsLocked", fn := fun _ => fun
  | [d1, d2] => { results := [.lit (.bool true)], args := [d1, d2] }
  | _ => none }
def fnExactIsLockedRow : OpenClaim := { program := "ytgfnagkelhbplaa", sum := "4653174a26e6185fdefb0bd301138254989fb372bdce7471eb429951923a4508", func := "loop.example/g01064/laws.FnExactIsLocked", spec := "fnExactIsLocked", inPlace := ["internal/bytealg.IndexByteString", "internal/bytealg.IndexString"], unfollowed := true, recurses := true, named := ["internal/bytealg.MaxLen"], apart := false }
def FnExactIsLockedSaid : Prop := fnExactIsLockedRow.holds Try.pinned (OpenSpec.ofChange fnExactIsLockedSpec)

/-- ITS FALSE NEIGHBOUR: 'it returns false'. Refute it at one input. -/
def fnExactIsLockedWrong : ChangeSpec := { name := "fnExactIsLocked", fn := fun _ => fun
  | [d1, d2] => { results := [.lit (.bool false)], args := [d1, d2] }
  | _ => none }
def FnExactIsLockedWrongFalsely : Prop := fnExactIsLockedRow.holds Try.pinned (OpenSpec.ofChange fnExactIsLockedWrong)

/-- 'laws.FnExactDrawnOut': WHATEVER THE INPUT: true; the input reads as it did. -/
def fnExactDrawnOutSpec : ChangeSpec := { name := "fnExactDrawnOut", fn := fun _ => fun
  | [d1, d2] => { results := [.lit (.bool true)], args := [d1, d2] }
  | _ => none }
def fnExactDrawnOutRow : OpenClaim := { program := "ytgfnagkelhbplaa", sum := "4653174a26e6185fdefb0bd301138254989fb372bdce7471eb429951923a4508", func := "loop.example/g01064/laws.FnExactDrawnOut", spec := "fnExactDrawnOut", inPlace := ["internal/bytealg.IndexByteString", "internal/bytealg.IndexString"], unfollowed := true, recurses := true, named := ["internal/bytealg.MaxLen"], apart := false }
def FnExactDrawnOutSaid : Prop := fnExactDrawnOutRow.holds Try.pinned (OpenSpec.ofChange fnExactDrawnOutSpec)

/-- ITS FALSE NEIGHBOUR: 'it returns false'. Refute it at one input. -/
def fnExactDrawnOutWrong : ChangeSpec := { name := "fnExactDrawnOut", fn := fun _ => fun
  | [d1, d2] => { results := [.lit (.bool false)], args := [d1, d2] }
  | _ => none }
def FnExactDrawnOutWrongFalsely : Prop := fnExactDrawnOutRow.holds Try.pinned (OpenSpec.ofChange fnExactDrawnOutWrong)

/-- 'laws.FnExactFirstWord': WHATEVER THE INPUT: true; the input reads as it did. -/
def fnExactFirstWordSpec : ChangeSpec := { name := "fnExactFirstWord", fn := fun _ => fun
  | [d] => { results := [.lit (.bool true)], args := [d] }
  | _ => none }
def fnExactFirstWordRow : OpenClaim := { program := "ytgfnagkelhbplaa", sum := "4653174a26e6185fdefb0bd301138254989fb372bdce7471eb429951923a4508", func := "loop.example/g01064/laws.FnExactFirstWord", spec := "fnExactFirstWord", inPlace := ["internal/bytealg.IndexByteString", "internal/bytealg.IndexString"], unfollowed := true, recurses := true, named := ["internal/bytealg.MaxLen"], apart := false }
def FnExactFirstWordSaid : Prop := fnExactFirstWordRow.holds Try.pinned (OpenSpec.ofChange fnExactFirstWordSpec)

/-- ITS FALSE NEIGHBOUR: 'it returns false'. Refute it at one input. -/
def fnExactFirstWordWrong : ChangeSpec := { name := "fnExactFirstWord", fn := fun _ => fun
  | [d] => { results := [.lit (.bool false)], args := [d] }
  | _ => none }
def FnExactFirstWordWrongFalsely : Prop := fnExactFirstWordRow.holds Try.pinned (OpenSpec.ofChange fnExactFirstWordWrong)

/-- 'laws.FnExactSameBorder': WHATEVER THE INPUT: true; the input reads as it did. -/
def fnExactSameBorderSpec : ChangeSpec := { name := "fnExactSameBorder", fn := fun _ => fun
  | [d1, d2] => { results := [.lit (.bool true)], args := [d1, d2] }
  | _ => none }
def fnExactSameBorderRow : OpenClaim := { program := "ytgfnagkelhbplaa", sum := "4653174a26e6185fdefb0bd301138254989fb372bdce7471eb429951923a4508", func := "loop.example/g01064/laws.FnExactSameBorder", spec := "fnExactSameBorder", inPlace := ["internal/bytealg.IndexByteString", "internal/bytealg.IndexString"], unfollowed := true, recurses := true, named := ["internal/bytealg.MaxLen"], apart := false }
def FnExactSameBorderSaid : Prop := fnExactSameBorderRow.holds Try.pinned (OpenSpec.ofChange fnExactSameBorderSpec)

/-- ITS FALSE NEIGHBOUR: 'it returns false'. Refute it at one input. -/
def fnExactSameBorderWrong : ChangeSpec := { name := "fnExactSameBorder", fn := fun _ => fun
  | [d1, d2] => { results := [.lit (.bool false)], args := [d1, d2] }
  | _ => none }
def FnExactSameBorderWrongFalsely : Prop := fnExactSameBorderRow.holds Try.pinned (OpenSpec.ofChange fnExactSameBorderWrong)

/-- 'laws.FnExactListWords': WHATEVER THE INPUT: true; the input reads as it did. -/
def fnExactListWordsSpec : ChangeSpec := { name := "fnExactListWords", fn := fun _ => fun
  | [d] => { results := [.lit (.bool true)], args := [d] }
  | _ => none }
def fnExactListWordsRow : OpenClaim := { program := "ytgfnagkelhbplaa", sum := "4653174a26e6185fdefb0bd301138254989fb372bdce7471eb429951923a4508", func := "loop.example/g01064/laws.FnExactListWords", spec := "fnExactListWords", recurses := true, apart := false }
def FnExactListWordsSaid : Prop := fnExactListWordsRow.holds Try.pinned (OpenSpec.ofChange fnExactListWordsSpec)

/-- ITS FALSE NEIGHBOUR: 'it returns false'. Refute it at one input. -/
def fnExactListWordsWrong : ChangeSpec := { name := "fnExactListWords", fn := fun _ => fun
  | [d] => { results := [.lit (.bool false)], args := [d] }
  | _ => none }
def FnExactListWordsWrongFalsely : Prop := fnExactListWordsRow.holds Try.pinned (OpenSpec.ofChange fnExactListWordsWrong)

/-- 'laws.FnExactLockedWords': WHATEVER THE INPUT: true; the input reads as it did. -/
def fnExactLockedWordsSpec : ChangeSpec := { name := "fnExactLockedWords", fn := fun _ => fun
  | [d1, d2] => { results := [.lit (.bool true)], args := [d1, d2] }
  | _ => none }
def fnExactLockedWordsRow : OpenClaim := { program := "ytgfnagkelhbplaa", sum := "4653174a26e6185fdefb0bd301138254989fb372bdce7471eb429951923a4508", func := "loop.example/g01064/laws.FnExactLockedWords", spec := "fnExactLockedWords", unfollowed := true, recurses := true, apart := false }
def FnExactLockedWordsSaid : Prop := fnExactLockedWordsRow.holds Try.pinned (OpenSpec.ofChange fnExactLockedWordsSpec)

/-- ITS FALSE NEIGHBOUR: 'it returns false'. Refute it at one input. -/
def fnExactLockedWordsWrong : ChangeSpec := { name := "fnExactLockedWords", fn := fun _ => fun
  | [d1, d2] => { results := [.lit (.bool false)], args := [d1, d2] }
  | _ => none }
def FnExactLockedWordsWrongFalsely : Prop := fnExactLockedWordsRow.holds Try.pinned (OpenSpec.ofChange fnExactLockedWordsWrong)

/-- 'laws.FnExactRodForBorder': WHATEVER THE INPUT: true; the input reads as it did. -/
def fnExactRodForBorderSpec : ChangeSpec := { name := "fnExactRodForBorder", fn := fun _ => fun
  | [d1, d2, d3] => { results := [.lit (.bool true)], args := [d1, d2, d3] }
  | _ => none }
def fnExactRodForBorderRow : OpenClaim := { program := "ytgfnagkelhbplaa", sum := "4653174a26e6185fdefb0bd301138254989fb372bdce7471eb429951923a4508", func := "loop.example/g01064/laws.FnExactRodForBorder", spec := "fnExactRodForBorder", inPlace := ["internal/bytealg.IndexByteString", "internal/bytealg.IndexString"], unfollowed := true, recurses := true, named := ["internal/bytealg.MaxLen"], apart := false }
def FnExactRodForBorderSaid : Prop := fnExactRodForBorderRow.holds Try.pinned (OpenSpec.ofChange fnExactRodForBorderSpec)

/-- ITS FALSE NEIGHBOUR: 'it returns false'. Refute it at one input. -/
def fnExactRodForBorderWrong : ChangeSpec := { name := "fnExactRodForBorder", fn := fun _ => fun
  | [d1, d2, d3] => { results := [.lit (.bool false)], args := [d1, d2, d3] }
  | _ => none }
def FnExactRodForBorderWrongFalsely : Prop := fnExactRodForBorderRow.holds Try.pinned (OpenSpec.ofChange fnExactRodForBorderWrong)

/-- 'laws.FnBorders': WHATEVER THE INPUT: true; the input reads as it did. -/
def fnBordersSpec : ChangeSpec := { name := "fnBorders", fn := fun _ => fun
  | [d] => { results := [.lit (.bool true)], args := [d] }
  | _ => none }
def fnBordersRow : OpenClaim := { program := "ytgfnagkelhbplaa", sum := "4653174a26e6185fdefb0bd301138254989fb372bdce7471eb429951923a4508", func := "loop.example/g01064/laws.FnBorders", spec := "fnBorders", inPlace := ["internal/bytealg.IndexByteString", "internal/bytealg.IndexString"], unfollowed := true, recurses := true, named := ["internal/bytealg.MaxLen"], apart := false }
def FnBordersSaid : Prop := fnBordersRow.holds Try.pinned (OpenSpec.ofChange fnBordersSpec)

/-- ITS FALSE NEIGHBOUR: 'it returns false'. Refute it at one input. -/
def fnBordersWrong : ChangeSpec := { name := "fnBorders", fn := fun _ => fun
  | [d] => { results := [.lit (.bool false)], args := [d] }
  | _ => none }
def FnBordersWrongFalsely : Prop := fnBordersRow.holds Try.pinned (OpenSpec.ofChange fnBordersWrong)

/-- 'laws.FnBendWords': WHATEVER THE INPUT: true; the input reads as it did. -/
def fnBendWordsSpec : ChangeSpec := { name := "fnBendWords", fn := fun _ => fun
  | [d] => { results := [.lit (.bool true)], args := [d] }
  | _ => none }
def fnBendWordsRow : OpenClaim := { program := "ytgfnagkelhbplaa", sum := "4653174a26e6185fdefb0bd301138254989fb372bdce7471eb429951923a4508", func := "loop.example/g01064/laws.FnBendWords", spec := "fnBendWords", inPlace := ["internal/bytealg.IndexByteString", "internal/bytealg.IndexString"], unfollowed := true, recurses := true, named := ["internal/bytealg.MaxLen"], apart := false }
def FnBendWordsSaid : Prop := fnBendWordsRow.holds Try.pinned (OpenSpec.ofChange fnBendWordsSpec)

/-- ITS FALSE NEIGHBOUR: 'it returns false'. Refute it at one input. -/
def fnBendWordsWrong : ChangeSpec := { name := "fnBendWords", fn := fun _ => fun
  | [d] => { results := [.lit (.bool false)], args := [d] }
  | _ => none }
def FnBendWordsWrongFalsely : Prop := fnBendWordsRow.holds Try.pinned (OpenSpec.ofChange fnBendWordsWrong)

/- THE SECOND FORM. 'bulk': how many values and letters a reading holds, each counted each time it is reached (what is shared counts as often as it is met; a slice's spare places count too). A statement '..UptoSaid' is the law's where the arguments, and the package variables that the reading takes, are together of bulk at most 1048576: NARROWER than '..Said'. Prove '..Said' where nothing that the law and all that it calls make is longer than what came in: it says more and counts as full. Else prove '..UptoSaid'. A law counts once. -/
mutual
def uptoBulk {H : Type} : DataW H → Nat
  | .lit (.string bytes) => bytes.length + 1
  | .lit _ => 1
  | .nil => 1
  | .ptr d => uptoBulk d + 1
  | .slice elems spare => uptoBulkAll elems + uptoBulkAll spare + 1
  | .agg parts => uptoBulkAll parts + 1
  | .iface _ d => uptoBulk d + 1
  | .map entries => uptoBulkEntries entries + 1
  | .held _ => 1
def uptoBulkAll {H : Type} : List (DataW H) → Nat
  | [] => 0
  | d :: r => uptoBulk d + uptoBulkAll r
def uptoBulkEntries {H : Type} : List (Lit × DataW H) → Nat
  | [] => 0
  | x :: r => uptoBulkEntry x + uptoBulkEntries r
def uptoBulkEntry {H : Type} : Lit × DataW H → Nat
  | (.string bytes, d) => bytes.length + uptoBulk d + 1
  | (_, d) => uptoBulk d + 1
 end
def uptoSmall : (H : Type) → List (DataW H) → Bool := fun _ ds => decide (uptoBulkAll ds ≤ 1048576)
def OpenSpec.upto (s : _root_.Go.ChangeSpec) : _root_.Go.OpenSpec := { _root_.Go.OpenSpec.ofChange s with cond := some uptoSmall }

/-- 'laws.FnExactValidBends', WHERE WHAT IT READS IS OF BULK AT MOST 1048576: true; the input reads as it did. -/
def fnExactValidBendsUptoRow : OpenClaim := { program := "ytgfnagkelhbplaa", sum := "4653174a26e6185fdefb0bd301138254989fb372bdce7471eb429951923a4508", func := "loop.example/g01064/laws.FnExactValidBends", spec := "fnExactValidBends", inPlace := ["internal/bytealg.IndexByteString", "internal/bytealg.IndexString"], unfollowed := true, recurses := true, named := ["internal/bytealg.MaxLen"], apart := false, narrowed := true }
def FnExactValidBendsUptoSaid : Prop := fnExactValidBendsUptoRow.holds Try.pinned (OpenSpec.upto fnExactValidBendsSpec)

/-- 'laws.FnExactEndOfBend', WHERE WHAT IT READS IS OF BULK AT MOST 1048576: true; the input reads as it did. -/
def fnExactEndOfBendUptoRow : OpenClaim := { program := "ytgfnagkelhbplaa", sum := "4653174a26e6185fdefb0bd301138254989fb372bdce7471eb429951923a4508", func := "loop.example/g01064/laws.FnExactEndOfBend", spec := "fnExactEndOfBend", inPlace := ["internal/bytealg.IndexByteString", "internal/bytealg.IndexString"], unfollowed := true, recurses := true, named := ["internal/bytealg.MaxLen"], apart := false, narrowed := true }
def FnExactEndOfBendUptoSaid : Prop := fnExactEndOfBendUptoRow.holds Try.pinned (OpenSpec.upto fnExactEndOfBendSpec)

/-- 'laws.FnExactCoversOf', WHERE WHAT IT READS IS OF BULK AT MOST 1048576: true; the input reads as it did. -/
def fnExactCoversOfUptoRow : OpenClaim := { program := "ytgfnagkelhbplaa", sum := "4653174a26e6185fdefb0bd301138254989fb372bdce7471eb429951923a4508", func := "loop.example/g01064/laws.FnExactCoversOf", spec := "fnExactCoversOf", inPlace := ["internal/bytealg.IndexByteString", "internal/bytealg.IndexString"], unfollowed := true, recurses := true, named := ["internal/bytealg.MaxLen"], apart := false, narrowed := true }
def FnExactCoversOfUptoSaid : Prop := fnExactCoversOfUptoRow.holds Try.pinned (OpenSpec.upto fnExactCoversOfSpec)

/-- 'laws.FnExactIsLocked', WHERE WHAT IT READS IS OF BULK AT MOST 1048576: true; the input reads as it did. -/
def fnExactIsLockedUptoRow : OpenClaim := { program := "ytgfnagkelhbplaa", sum := "4653174a26e6185fdefb0bd301138254989fb372bdce7471eb429951923a4508", func := "loop.example/g01064/laws.FnExactIsLocked", spec := "fnExactIsLocked", inPlace := ["internal/bytealg.IndexByteString", "internal/bytealg.IndexString"], unfollowed := true, recurses := true, named := ["internal/bytealg.MaxLen"], apart := false, narrowed := true }
def FnExactIsLockedUptoSaid : Prop := fnExactIsLockedUptoRow.holds Try.pinned (OpenSpec.upto fnExactIsLockedSpec)

/-- 'laws.FnExactDrawnOut', WHERE WHAT IT READS IS OF BULK AT MOST 1048576: true; the input reads as it did. -/
def fnExactDrawnOutUptoRow : OpenClaim := { program := "ytgfnagkelhbplaa", sum := "4653174a26e6185fdefb0bd301138254989fb372bdce7471eb429951923a4508", func := "loop.example/g01064/laws.FnExactDrawnOut", spec := "fnExactDrawnOut", inPlace := ["internal/bytealg.IndexByteString", "internal/bytealg.IndexString"], unfollowed := true, recurses := true, named := ["internal/bytealg.MaxLen"], apart := false, narrowed := true }
def FnExactDrawnOutUptoSaid : Prop := fnExactDrawnOutUptoRow.holds Try.pinned (OpenSpec.upto fnExactDrawnOutSpec)

/-- 'laws.FnExactFirstWord', WHERE WHAT IT READS IS OF BULK AT MOST 1048576: true; the input reads as it did. -/
def fnExactFirstWordUptoRow : OpenClaim := { program := "ytgfnagkelhbplaa", sum := "4653174a26e6185fdefb0bd301138254989fb372bdce7471eb429951923a4508", func := "loop.example/g01064/laws.FnExactFirstWord", spec := "fnExactFirstWord", inPlace := ["internal/bytealg.IndexByteString", "internal/bytealg.IndexString"], unfollowed := true, recurses := true, named := ["internal/bytealg.MaxLen"], apart := false, narrowed := true }
def FnExactFirstWordUptoSaid : Prop := fnExactFirstWordUptoRow.holds Try.pinned (OpenSpec.upto fnExactFirstWordSpec)

/-- 'laws.FnExactSameBorder', WHERE WHAT IT READS IS OF BULK AT MOST 1048576: true; the input reads as it did. -/
def fnExactSameBorderUptoRow : OpenClaim := { program := "ytgfnagkelhbplaa", sum := "4653174a26e6185fdefb0bd301138254989fb372bdce7471eb429951923a4508", func := "loop.example/g01064/laws.FnExactSameBorder", spec := "fnExactSameBorder", inPlace := ["internal/bytealg.IndexByteString", "internal/bytealg.IndexString"], unfollowed := true, recurses := true, named := ["internal/bytealg.MaxLen"], apart := false, narrowed := true }
def FnExactSameBorderUptoSaid : Prop := fnExactSameBorderUptoRow.holds Try.pinned (OpenSpec.upto fnExactSameBorderSpec)

/-- 'laws.FnExactListWords', WHERE WHAT IT READS IS OF BULK AT MOST 1048576: true; the input reads as it did. -/
def fnExactListWordsUptoRow : OpenClaim := { program := "ytgfnagkelhbplaa", sum := "4653174a26e6185fdefb0bd301138254989fb372bdce7471eb429951923a4508", func := "loop.example/g01064/laws.FnExactListWords", spec := "fnExactListWords", recurses := true, apart := false, narrowed := true }
def FnExactListWordsUptoSaid : Prop := fnExactListWordsUptoRow.holds Try.pinned (OpenSpec.upto fnExactListWordsSpec)

/-- 'laws.FnExactLockedWords', WHERE WHAT IT READS IS OF BULK AT MOST 1048576: true; the input reads as it did. -/
def fnExactLockedWordsUptoRow : OpenClaim := { program := "ytgfnagkelhbplaa", sum := "4653174a26e6185fdefb0bd301138254989fb372bdce7471eb429951923a4508", func := "loop.example/g01064/laws.FnExactLockedWords", spec := "fnExactLockedWords", unfollowed := true, recurses := true, apart := false, narrowed := true }
def FnExactLockedWordsUptoSaid : Prop := fnExactLockedWordsUptoRow.holds Try.pinned (OpenSpec.upto fnExactLockedWordsSpec)

/-- 'laws.FnExactRodForBorder', WHERE WHAT IT READS IS OF BULK AT MOST 1048576: true; the input reads as it did. -/
def fnExactRodForBorderUptoRow : OpenClaim := { program := "ytgfnagkelhbplaa", sum := "4653174a26e6185fdefb0bd301138254989fb372bdce7471eb429951923a4508", func := "loop.example/g01064/laws.FnExactRodForBorder", spec := "fnExactRodForBorder", inPlace := ["internal/bytealg.IndexByteString", "internal/bytealg.IndexString"], unfollowed := true, recurses := true, named := ["internal/bytealg.MaxLen"], apart := false, narrowed := true }
def FnExactRodForBorderUptoSaid : Prop := fnExactRodForBorderUptoRow.holds Try.pinned (OpenSpec.upto fnExactRodForBorderSpec)

/-- 'laws.FnBorders', WHERE WHAT IT READS IS OF BULK AT MOST 1048576: true; the input reads as it did. -/
def fnBordersUptoRow : OpenClaim := { program := "ytgfnagkelhbplaa", sum := "4653174a26e6185fdefb0bd301138254989fb372bdce7471eb429951923a4508", func := "loop.example/g01064/laws.FnBorders", spec := "fnBorders", inPlace := ["internal/bytealg.IndexByteString", "internal/bytealg.IndexString"], unfollowed := true, recurses := true, named := ["internal/bytealg.MaxLen"], apart := false, narrowed := true }
def FnBordersUptoSaid : Prop := fnBordersUptoRow.holds Try.pinned (OpenSpec.upto fnBordersSpec)

/-- 'laws.FnBendWords', WHERE WHAT IT READS IS OF BULK AT MOST 1048576: true; the input reads as it did. -/
def fnBendWordsUptoRow : OpenClaim := { program := "ytgfnagkelhbplaa", sum := "4653174a26e6185fdefb0bd301138254989fb372bdce7471eb429951923a4508", func := "loop.example/g01064/laws.FnBendWords", spec := "fnBendWords", inPlace := ["internal/bytealg.IndexByteString", "internal/bytealg.IndexString"], unfollowed := true, recurses := true, named := ["internal/bytealg.MaxLen"], apart := false, narrowed := true }
def FnBendWordsUptoSaid : Prop := fnBendWordsUptoRow.holds Try.pinned (OpenSpec.upto fnBendWordsSpec)

end Rows
end Go.Proofs.Ytgfnagkelhbplaa
