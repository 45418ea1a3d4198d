/-
  DERIVED. GIVEN WITH THE SEED: THE CARDS: each row of YtbmdggcfoohmgabDoorRows.lean that lists a variable, with what it lists TIED to the program's text (the seventh form; the later family's looks); each row that meets fmt, with fmt's text TOLD by the authors' own Lean function (tested against real Go, not proved from fmt's source: count such statements apart). THE CARD IS WHAT COUNTS. Prove the row's statement (the work); the ties are given (YtbmdggcfoohmgabDoorTie.lean); close each card by the builder's one call (the guide's Derived/Test/ToyasCard.lean, 'card_holds'). Laid BY PROGRAM, IN A SANDBOX (cutbox-door.mjs). By AI agents, Wed Nov 11 2026. No macro, syntax, notation, axiom, sorry.
-/
import Derived.Test.YtbmdggcfoohmgabDoorRows
import GoSem.ClaimSeven
namespace Go.Proofs.YtbmdggcfoohmgabDoor
namespace Rows

/-- THE TIED CARD OF 'laws.FnExactSoundStakes'. -/
def fnExactSoundStakesCard : Claim7 := { stood := { row := fnExactSoundStakesRow, standIns := [], harness := (true, "f619f3ead107c4e851c4eb3408b8a27b779162a23d68f33284fa1e325142c08e"), looks := false }, kinds := [], alts := [], laidByText := true, laidKinds := [.data, .pinned], laidTests := true, laidLooks := .later }
def FnExactSoundStakesCardSaid : Prop := Claim7.holds Tryd.pinned (.plain (OpenSpec.ofChange fnExactSoundStakesSpec)) fnExactSoundStakesCard

/-- THE SECOND FORM's CARD OF 'laws.FnExactSoundStakes'. -/
def fnExactSoundStakesUptoCard : Claim7 := { stood := { row := fnExactSoundStakesUptoRow, standIns := [], harness := (true, "f619f3ead107c4e851c4eb3408b8a27b779162a23d68f33284fa1e325142c08e"), looks := false }, kinds := [], alts := [], laidByText := true, laidKinds := [.data, .pinned], laidTests := true, laidLooks := .later }
def FnExactSoundStakesUptoCardSaid : Prop := Claim7.holds Tryd.pinned (.plain (OpenSpec.upto fnExactSoundStakesSpec)) fnExactSoundStakesUptoCard
end Rows
end Go.Proofs.YtbmdggcfoohmgabDoor
