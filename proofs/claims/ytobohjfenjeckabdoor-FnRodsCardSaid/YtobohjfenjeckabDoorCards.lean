/-
  DERIVED. GIVEN WITH THE SEED: THE CARDS: each row of YtobohjfenjeckabDoorRows.lean that lists a variable, with what it lists TIED to the program's text (the seventh form; the later family's looks); each row that meets fmt, with fmt's text TOLD by the authors' own Lean function (tested against real Go, not proved from fmt's source: count such statements apart). THE CARD IS WHAT COUNTS. Prove the row's statement (the work); the ties are given (YtobohjfenjeckabDoorTie.lean); close each card by the builder's one call (the guide's Derived/Test/ToyasCard.lean, 'card_holds'). Laid BY PROGRAM, IN A SANDBOX (cutbox-door.mjs). By AI agents, Wed Nov 11 2026. No macro, syntax, notation, axiom, sorry.
-/
import Derived.Test.YtobohjfenjeckabDoorRows
import GoSem.ClaimSeven
namespace Go.Proofs.YtobohjfenjeckabDoor
namespace Rows

/-- THE TIED CARD OF 'laws.FnRods'. -/
def fnRodsCard : Claim7 := { stood := { row := fnRodsRow, standIns := [], harness := (true, "7c9087ffef9e8fb37d2f1e860ebece44ec63b72030efdfd953b53d87fb3c7ddb"), looks := true }, kinds := [], alts := [], laidByText := true, laidKinds := [.data, .data, .data, .sentinel, .sentinel], laidTests := true, laidLooks := .later }
def FnRodsCardSaid : Prop := Claim7.holds Tryd.pinned (.plain (OpenSpec.ofChange fnRodsSpec)) fnRodsCard

/-- THE SECOND FORM's CARD OF 'laws.FnRods'. -/
def fnRodsUptoCard : Claim7 := { stood := { row := fnRodsUptoRow, standIns := [], harness := (true, "7c9087ffef9e8fb37d2f1e860ebece44ec63b72030efdfd953b53d87fb3c7ddb"), looks := true }, kinds := [], alts := [], laidByText := true, laidKinds := [.data, .data, .data, .sentinel, .sentinel], laidTests := true, laidLooks := .later }
def FnRodsUptoCardSaid : Prop := Claim7.holds Tryd.pinned (.plain (OpenSpec.upto fnRodsSpec)) fnRodsUptoCard
end Rows
end Go.Proofs.YtobohjfenjeckabDoor
