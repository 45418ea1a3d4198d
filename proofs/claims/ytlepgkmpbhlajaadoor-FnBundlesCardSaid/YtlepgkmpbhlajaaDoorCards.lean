/-
  DERIVED. GIVEN WITH THE SEED: THE CARDS: each row of YtlepgkmpbhlajaaDoorRows.lean that lists a variable, with what it lists TIED to the program's text (the seventh form; the later family's looks); each row that meets fmt, with fmt's text TOLD by the authors' own Lean function (tested against real Go, not proved from fmt's source: count such statements apart). THE CARD IS WHAT COUNTS. Prove the row's statement (the work); the ties are given (YtlepgkmpbhlajaaDoorTie.lean); close each card by the builder's one call (the guide's Derived/Test/ToyasCard.lean, 'card_holds'). Laid BY PROGRAM, IN A SANDBOX (cutbox-door.mjs). By AI agents, Wed Nov 11 2026. No macro, syntax, notation, axiom, sorry.
-/
import Derived.Test.YtlepgkmpbhlajaaDoorRows
import GoSem.ClaimSeven
namespace Go.Proofs.YtlepgkmpbhlajaaDoor
namespace Rows

/-- THE TIED CARD OF 'laws.FnBundles'. -/
def fnBundlesCard : Claim7 := { stood := { row := fnBundlesRow, standIns := [], harness := (true, "2d20dcddf7a7e18006d8ebb5989de3661e39230c0c08f90d327c5d44f62c626f"), looks := true }, kinds := [], alts := [], laidByText := true, laidKinds := [.data, .data, .data], laidTests := true, laidLooks := .later }
def FnBundlesCardSaid : Prop := Claim7.holds Tryd.pinned (.plain (OpenSpec.ofChange fnBundlesSpec)) fnBundlesCard

/-- THE TIED CARD OF 'laws.FnExactOtherSide'. -/
def fnExactOtherSideCard : Claim7 := { stood := { row := fnExactOtherSideRow, standIns := [], harness := (true, "2d20dcddf7a7e18006d8ebb5989de3661e39230c0c08f90d327c5d44f62c626f"), looks := true }, kinds := [], alts := [], laidByText := true, laidKinds := [.data, .pinned], laidTests := true, laidLooks := .later }
def FnExactOtherSideCardSaid : Prop := Claim7.holds Tryd.pinned (.plain (OpenSpec.ofChange fnExactOtherSideSpec)) fnExactOtherSideCard

/-- THE SECOND FORM's CARD OF 'laws.FnBundles'. -/
def fnBundlesUptoCard : Claim7 := { stood := { row := fnBundlesUptoRow, standIns := [], harness := (true, "2d20dcddf7a7e18006d8ebb5989de3661e39230c0c08f90d327c5d44f62c626f"), looks := true }, kinds := [], alts := [], laidByText := true, laidKinds := [.data, .data, .data], laidTests := true, laidLooks := .later }
def FnBundlesUptoCardSaid : Prop := Claim7.holds Tryd.pinned (.plain (OpenSpec.upto fnBundlesSpec)) fnBundlesUptoCard

/-- THE SECOND FORM's CARD OF 'laws.FnExactOtherSide'. -/
def fnExactOtherSideUptoCard : Claim7 := { stood := { row := fnExactOtherSideUptoRow, standIns := [], harness := (true, "2d20dcddf7a7e18006d8ebb5989de3661e39230c0c08f90d327c5d44f62c626f"), looks := true }, kinds := [], alts := [], laidByText := true, laidKinds := [.data, .pinned], laidTests := true, laidLooks := .later }
def FnExactOtherSideUptoCardSaid : Prop := Claim7.holds Tryd.pinned (.plain (OpenSpec.upto fnExactOtherSideSpec)) fnExactOtherSideUptoCard
end Rows
end Go.Proofs.YtlepgkmpbhlajaaDoor
