/-
  No cell of these rows narrows 'for every input' (looked for: loops, veiled, ifaces, maps, wideKeys, modest, calm, conditions, laid).
  DERIVED. THE GIVEN ROWS OF THIS SEAT. 7 by the template 'for every input the law returns true; each argument reads behind the call as it read before'; 0 by the template 'total and deterministic' (their statements: YtmaakconbaiagaaTotals.lean).
  GIVEN WITH THE SEED: the statements are not yours to turn. If you find one false, say at which input.
  Laid BY PROGRAM, IN A SANDBOX (cutbox-rows.mjs): the forced cells as the released guide's own fill.sh prints them over the translation c0980b85e3f2027f… (all of the seat's roots in one cut). By AI agents, Wed Nov 11 2026. No macro, syntax, notation, axiom, sorry.
-/
import Derived.Test.YtmaakconbaiagaaChecked
import GoSem.Claim
import GoSem.ClaimJoined
import GoSem.ClaimMapViews
import Derived.JoinedTies
import Derived.KernelRfl
namespace Go.Proofs.Ytmaakconbaiagaa
/- THE CELL 'sum', in the pinned program and in every row, IS THE sha256 OF THE DUMP (.gsa) THAT YtmaakconbaiagaaProg.lean LOADS. Nothing in Lean hashes anything: it is a label: what it is worth is what the hold of that sum in a sandbox is worth. -/
noncomputable def Try.pinned : Pinned := { name := "ytmaakconbaiagaa", sum := "c0980b85e3f2027fc11ac64a9a742dc61ef03d2a5358734b28939eaa3a1377d0", checked := Try.checked }
namespace Rows
def none {H : Type} : Left H := { results := [], args := [] }

/-- 'laws.FnExactCodeName': WHATEVER THE INPUT: true; the input reads as it did. -/
def fnExactCodeNameSpec : ChangeSpec := { name := "fnExactCodeName", fn := fun _ => fun
  | [d] => { results := [.lit (.bool true)], args := [d] }
  | _ => none }
def fnExactCodeNameRow : OpenClaim := { program := "ytmaakconbaiagaa", sum := "c0980b85e3f2027fc11ac64a9a742dc61ef03d2a5358734b28939eaa3a1377d0", func := "loop.example/g01064/laws.FnExactCodeName", spec := "fnExactCodeName", apart := false }
def FnExactCodeNameSaid : Prop := fnExactCodeNameRow.holds Try.pinned (OpenSpec.ofChange fnExactCodeNameSpec)

/-- ITS FALSE NEIGHBOUR: 'it returns false'. Refute it at one input. -/
def fnExactCodeNameWrong : ChangeSpec := { name := "fnExactCodeName", fn := fun _ => fun
  | [d] => { results := [.lit (.bool false)], args := [d] }
  | _ => none }
def FnExactCodeNameWrongFalsely : Prop := fnExactCodeNameRow.holds Try.pinned (OpenSpec.ofChange fnExactCodeNameWrong)

/-- 'laws.FnExactIsName': WHATEVER THE INPUT: true; the input reads as it did. -/
def fnExactIsNameSpec : ChangeSpec := { name := "fnExactIsName", fn := fun _ => fun
  | [d] => { results := [.lit (.bool true)], args := [d] }
  | _ => none }
def fnExactIsNameRow : OpenClaim := { program := "ytmaakconbaiagaa", sum := "c0980b85e3f2027fc11ac64a9a742dc61ef03d2a5358734b28939eaa3a1377d0", func := "loop.example/g01064/laws.FnExactIsName", spec := "fnExactIsName", apart := false }
def FnExactIsNameSaid : Prop := fnExactIsNameRow.holds Try.pinned (OpenSpec.ofChange fnExactIsNameSpec)

/-- ITS FALSE NEIGHBOUR: 'it returns false'. Refute it at one input. -/
def fnExactIsNameWrong : ChangeSpec := { name := "fnExactIsName", fn := fun _ => fun
  | [d] => { results := [.lit (.bool false)], args := [d] }
  | _ => none }
def FnExactIsNameWrongFalsely : Prop := fnExactIsNameRow.holds Try.pinned (OpenSpec.ofChange fnExactIsNameWrong)

/-- 'laws.FnExactSplitWords': WHATEVER THE INPUT: true; the input reads as it did. -/
def fnExactSplitWordsSpec : ChangeSpec := { name := "fnExactSplitWords", fn := fun _ => fun
  | [d] => { results := [.lit (.bool true)], args := [d] }
  | _ => none }
def fnExactSplitWordsRow : OpenClaim := { program := "ytmaakconbaiagaa", sum := "c0980b85e3f2027fc11ac64a9a742dc61ef03d2a5358734b28939eaa3a1377d0", func := "loop.example/g01064/laws.FnExactSplitWords", spec := "fnExactSplitWords", inPlace := ["internal/abi.NoEscape"], apart := false }
def FnExactSplitWordsSaid : Prop := fnExactSplitWordsRow.holds Try.pinned (OpenSpec.ofChange fnExactSplitWordsSpec)

/-- ITS FALSE NEIGHBOUR: 'it returns false'. Refute it at one input. -/
def fnExactSplitWordsWrong : ChangeSpec := { name := "fnExactSplitWords", fn := fun _ => fun
  | [d] => { results := [.lit (.bool false)], args := [d] }
  | _ => none }
def FnExactSplitWordsWrongFalsely : Prop := fnExactSplitWordsRow.holds Try.pinned (OpenSpec.ofChange fnExactSplitWordsWrong)

/-- 'laws.FnExactThickAt': WHATEVER THE INPUT: true; the input reads as it did. -/
def fnExactThickAtSpec : ChangeSpec := { name := "fnExactThickAt", fn := fun _ => fun
  | [d1, d2] => { results := [.lit (.bool true)], args := [d1, d2] }
  | _ => none }
def fnExactThickAtRow : OpenClaim := { program := "ytmaakconbaiagaa", sum := "c0980b85e3f2027fc11ac64a9a742dc61ef03d2a5358734b28939eaa3a1377d0", func := "loop.example/g01064/laws.FnExactThickAt", spec := "fnExactThickAt", apart := false }
def FnExactThickAtSaid : Prop := fnExactThickAtRow.holds Try.pinned (OpenSpec.ofChange fnExactThickAtSpec)

/-- ITS FALSE NEIGHBOUR: 'it returns false'. Refute it at one input. -/
def fnExactThickAtWrong : ChangeSpec := { name := "fnExactThickAt", fn := fun _ => fun
  | [d1, d2] => { results := [.lit (.bool false)], args := [d1, d2] }
  | _ => none }
def FnExactThickAtWrongFalsely : Prop := fnExactThickAtRow.holds Try.pinned (OpenSpec.ofChange fnExactThickAtWrong)

/-- 'laws.FnExactLengthWith': WHATEVER THE INPUT: true; the input reads as it did. -/
def fnExactLengthWithSpec : ChangeSpec := { name := "fnExactLengthWith", fn := fun _ => fun
  | [d1, d2] => { results := [.lit (.bool true)], args := [d1, d2] }
  | _ => none }
def fnExactLengthWithRow : OpenClaim := { program := "ytmaakconbaiagaa", sum := "c0980b85e3f2027fc11ac64a9a742dc61ef03d2a5358734b28939eaa3a1377d0", func := "loop.example/g01064/laws.FnExactLengthWith", spec := "fnExactLengthWith", apart := false }
def FnExactLengthWithSaid : Prop := fnExactLengthWithRow.holds Try.pinned (OpenSpec.ofChange fnExactLengthWithSpec)

/-- ITS FALSE NEIGHBOUR: 'it returns false'. Refute it at one input. -/
def fnExactLengthWithWrong : ChangeSpec := { name := "fnExactLengthWith", fn := fun _ => fun
  | [d1, d2] => { results := [.lit (.bool false)], args := [d1, d2] }
  | _ => none }
def FnExactLengthWithWrongFalsely : Prop := fnExactLengthWithRow.holds Try.pinned (OpenSpec.ofChange fnExactLengthWithWrong)

/-- 'laws.FnExactCutTip': WHATEVER THE INPUT: true; the input reads as it did. -/
def fnExactCutTipSpec : ChangeSpec := { name := "fnExactCutTip", fn := fun _ => fun
  | [d1, d2] => { results := [.lit (.bool true)], args := [d1, d2] }
  | _ => none }
def fnExactCutTipRow : OpenClaim := { program := "ytmaakconbaiagaa", sum := "c0980b85e3f2027fc11ac64a9a742dc61ef03d2a5358734b28939eaa3a1377d0", func := "loop.example/g01064/laws.FnExactCutTip", spec := "fnExactCutTip", apart := false }
def FnExactCutTipSaid : Prop := fnExactCutTipRow.holds Try.pinned (OpenSpec.ofChange fnExactCutTipSpec)

/-- ITS FALSE NEIGHBOUR: 'it returns false'. Refute it at one input. -/
def fnExactCutTipWrong : ChangeSpec := { name := "fnExactCutTip", fn := fun _ => fun
  | [d1, d2] => { results := [.lit (.bool false)], args := [d1, d2] }
  | _ => none }
def FnExactCutTipWrongFalsely : Prop := fnExactCutTipRow.holds Try.pinned (OpenSpec.ofChange fnExactCutTipWrong)

/-- 'laws.FnExactValidRods': WHATEVER THE INPUT: true; the input reads as it did. -/
def fnExactValidRodsSpec : ChangeSpec := { name := "fnExactValidRods", fn := fun _ => fun
  | [d] => { results := [.lit (.bool true)], args := [d] }
  | _ => none }
def fnExactValidRodsRow : OpenClaim := { program := "ytmaakconbaiagaa", sum := "c0980b85e3f2027fc11ac64a9a742dc61ef03d2a5358734b28939eaa3a1377d0", func := "loop.example/g01064/laws.FnExactValidRods", spec := "fnExactValidRods", apart := false }
def FnExactValidRodsSaid : Prop := fnExactValidRodsRow.holds Try.pinned (OpenSpec.ofChange fnExactValidRodsSpec)

/-- ITS FALSE NEIGHBOUR: 'it returns false'. Refute it at one input. -/
def fnExactValidRodsWrong : ChangeSpec := { name := "fnExactValidRods", fn := fun _ => fun
  | [d] => { results := [.lit (.bool false)], args := [d] }
  | _ => none }
def FnExactValidRodsWrongFalsely : Prop := fnExactValidRodsRow.holds Try.pinned (OpenSpec.ofChange fnExactValidRodsWrong)

/- THE SECOND FORM. 'bulk': how many values and letters a reading holds, each counted each time it is reached (what is shared counts as often as it is met; a slice's spare places count too). A statement '..UptoSaid' is the law's where the arguments, and the package variables that the reading takes, are together of bulk at most 1048576: NARROWER than '..Said'. Prove '..Said' where nothing that the law and all that it calls make is longer than what came in: it says more and counts as full. Else prove '..UptoSaid'. A law counts once. -/
mutual
def uptoBulk {H : Type} : DataW H → Nat
  | .lit (.string bytes) => bytes.length + 1
  | .lit _ => 1
  | .nil => 1
  | .ptr d => uptoBulk d + 1
  | .slice elems spare => uptoBulkAll elems + uptoBulkAll spare + 1
  | .agg parts => uptoBulkAll parts + 1
  | .iface _ d => uptoBulk d + 1
  | .map entries => uptoBulkEntries entries + 1
  | .held _ => 1
def uptoBulkAll {H : Type} : List (DataW H) → Nat
  | [] => 0
  | d :: r => uptoBulk d + uptoBulkAll r
def uptoBulkEntries {H : Type} : List (Lit × DataW H) → Nat
  | [] => 0
  | x :: r => uptoBulkEntry x + uptoBulkEntries r
def uptoBulkEntry {H : Type} : Lit × DataW H → Nat
  | (.string bytes, d) => bytes.length + uptoBulk d + 1
  | (_, d) => uptoBulk d + 1
 end
def uptoSmall : (H : Type) → List (DataW H) → Bool := fun _ ds => decide (uptoBulkAll ds ≤ 1048576)
def OpenSpec.upto (s : _root_.Go.ChangeSpec) : _root_.Go.OpenSpec := { _root_.Go.OpenSpec.ofChange s with cond := some uptoSmall }

/-- 'laws.FnExactCodeName', WHERE WHAT IT READS IS OF BULK AT MOST 1048576: true; the input reads as it did. -/
def fnExactCodeNameUptoRow : OpenClaim := { program := "ytmaakconbaiagaa", sum := "c0980b85e3f2027fc11ac64a9a742dc61ef03d2a5358734b28939eaa3a1377d0", func := "loop.example/g01064/laws.FnExactCodeName", spec := "fnExactCodeName", apart := false, narrowed := true }
def FnExactCodeNameUptoSaid : Prop := fnExactCodeNameUptoRow.holds Try.pinned (OpenSpec.upto fnExactCodeNameSpec)

/-- 'laws.FnExactIsName', WHERE WHAT IT READS IS OF BULK AT MOST 1048576: true; the input reads as it did. -/
def fnExactIsNameUptoRow : OpenClaim := { program := "ytmaakconbaiagaa", sum := "c0980b85e3f2027fc11ac64a9a742dc61ef03d2a5358734b28939eaa3a1377d0", func := "loop.example/g01064/laws.FnExactIsName", spec := "fnExactIsName", apart := false, narrowed := true }
def FnExactIsNameUptoSaid : Prop := fnExactIsNameUptoRow.holds Try.pinned (OpenSpec.upto fnExactIsNameSpec)

/-- 'laws.FnExactSplitWords', WHERE WHAT IT READS IS OF BULK AT MOST 1048576: true; the input reads as it did. -/
def fnExactSplitWordsUptoRow : OpenClaim := { program := "ytmaakconbaiagaa", sum := "c0980b85e3f2027fc11ac64a9a742dc61ef03d2a5358734b28939eaa3a1377d0", func := "loop.example/g01064/laws.FnExactSplitWords", spec := "fnExactSplitWords", inPlace := ["internal/abi.NoEscape"], apart := false, narrowed := true }
def FnExactSplitWordsUptoSaid : Prop := fnExactSplitWordsUptoRow.holds Try.pinned (OpenSpec.upto fnExactSplitWordsSpec)

/-- 'laws.FnExactThickAt', WHERE WHAT IT READS IS OF BULK AT MOST 1048576: true; the input reads as it did. -/
def fnExactThickAtUptoRow : OpenClaim := { program := "ytmaakconbaiagaa", sum := "c0980b85e3f2027fc11ac64a9a742dc61ef03d2a5358734b28939eaa3a1377d0", func := "loop.example/g01064/laws.FnExactThickAt", spec := "fnExactThickAt", apart := false, narrowed := true }
def FnExactThickAtUptoSaid : Prop := fnExactThickAtUptoRow.holds Try.pinned (OpenSpec.upto fnExactThickAtSpec)

/-- 'laws.FnExactLengthWith', WHERE WHAT IT READS IS OF BULK AT MOST 1048576: true; the input reads as it did. -/
def fnExactLengthWithUptoRow : OpenClaim := { program := "ytmaakconbaiagaa", sum := "c0980b85e3f2027fc11ac64a9a742dc61ef03d2a5358734b28939eaa3a1377d0", func := "loop.example/g01064/laws.FnExactLengthWith", spec := "fnExactLengthWith", apart := false, narrowed := true }
def FnExactLengthWithUptoSaid : Prop := fnExactLengthWithUptoRow.holds Try.pinned (OpenSpec.upto fnExactLengthWithSpec)

/-- 'laws.FnExactCutTip', WHERE WHAT IT READS IS OF BULK AT MOST 1048576: true; the input reads as it did. -/
def fnExactCutTipUptoRow : OpenClaim := { program := "ytmaakconbaiagaa", sum := "c0980b85e3f2027fc11ac64a9a742dc61ef03d2a5358734b28939eaa3a1377d0", func := "loop.example/g01064/laws.FnExactCutTip", spec := "fnExactCutTip", apart := false, narrowed := true }
def FnExactCutTipUptoSaid : Prop := fnExactCutTipUptoRow.holds Try.pinned (OpenSpec.upto fnExactCutTipSpec)

/-- 'laws.FnExactValidRods', WHERE WHAT IT READS IS OF BULK AT MOST 1048576: true; the input reads as it did. -/
def fnExactValidRodsUptoRow : OpenClaim := { program := "ytmaakconbaiagaa", sum := "c0980b85e3f2027fc11ac64a9a742dc61ef03d2a5358734b28939eaa3a1377d0", func := "loop.example/g01064/laws.FnExactValidRods", spec := "fnExactValidRods", apart := false, narrowed := true }
def FnExactValidRodsUptoSaid : Prop := fnExactValidRodsUptoRow.holds Try.pinned (OpenSpec.upto fnExactValidRodsSpec)

end Rows
end Go.Proofs.Ytmaakconbaiagaa
