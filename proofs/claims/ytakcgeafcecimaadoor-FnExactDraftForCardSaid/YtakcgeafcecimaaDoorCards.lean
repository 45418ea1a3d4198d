/-
  DERIVED. GIVEN WITH THE SEED: THE CARDS: each row of YtakcgeafcecimaaDoorRows.lean that lists a variable, with what it lists TIED to the program's text (the seventh form; the later family's looks); each row that meets fmt, with fmt's text TOLD by the authors' own Lean function (tested against real Go, not proved from fmt's source: count such statements apart). THE CARD IS WHAT COUNTS. Prove the row's statement (the work); the ties are given (YtakcgeafcecimaaDoorTie.lean); close each card by the builder's one call (the guide's Derived/Test/ToyasCard.lean, 'card_holds'). Laid BY PROGRAM, IN A SANDBOX (cutbox-door.mjs). By AI agents, Wed Nov 11 2026. No macro, syntax, notation, axiom, sorry.
-/
import Derived.Test.YtakcgeafcecimaaDoorRows
import GoSem.ClaimSeven
namespace Go.Proofs.YtakcgeafcecimaaDoor
namespace Rows

/-- THE TIED CARD OF 'laws.FnExactDraftFor'. -/
def fnExactDraftForCard : Claim7 := { stood := { row := fnExactDraftForRow, standIns := [], harness := (true, "1b9b49f3713c7478135638dfb41b7c3c0139505e7f6277a41363be15bcb4f06f"), looks := false }, kinds := [], alts := [], laidByText := true, laidKinds := [.data, .pinned], laidTests := true, laidLooks := .later }
def FnExactDraftForCardSaid : Prop := Claim7.holds Tryd.pinned (.plain (OpenSpec.ofChange fnExactDraftForSpec)) fnExactDraftForCard

/-- THE TIED CARD OF 'laws.FnExactTwillText'. -/
def fnExactTwillTextCard : Claim7 := { stood := { row := fnExactTwillTextRow, standIns := [], harness := (true, "1b9b49f3713c7478135638dfb41b7c3c0139505e7f6277a41363be15bcb4f06f"), looks := false }, kinds := [], alts := [], laidByText := true, laidKinds := [.data, .data, .data], laidTests := true, laidLooks := .later }
def FnExactTwillTextCardSaid : Prop := Claim7.holds Tryd.pinned (.plain (OpenSpec.ofChange fnExactTwillTextSpec)) fnExactTwillTextCard

/-- THE SECOND FORM's CARD OF 'laws.FnExactDraftFor'. -/
def fnExactDraftForUptoCard : Claim7 := { stood := { row := fnExactDraftForUptoRow, standIns := [], harness := (true, "1b9b49f3713c7478135638dfb41b7c3c0139505e7f6277a41363be15bcb4f06f"), looks := false }, kinds := [], alts := [], laidByText := true, laidKinds := [.data, .pinned], laidTests := true, laidLooks := .later }
def FnExactDraftForUptoCardSaid : Prop := Claim7.holds Tryd.pinned (.plain (OpenSpec.upto fnExactDraftForSpec)) fnExactDraftForUptoCard

/-- THE SECOND FORM's CARD OF 'laws.FnExactTwillText'. -/
def fnExactTwillTextUptoCard : Claim7 := { stood := { row := fnExactTwillTextUptoRow, standIns := [], harness := (true, "1b9b49f3713c7478135638dfb41b7c3c0139505e7f6277a41363be15bcb4f06f"), looks := false }, kinds := [], alts := [], laidByText := true, laidKinds := [.data, .data, .data], laidTests := true, laidLooks := .later }
def FnExactTwillTextUptoCardSaid : Prop := Claim7.holds Tryd.pinned (.plain (OpenSpec.upto fnExactTwillTextSpec)) fnExactTwillTextUptoCard
end Rows
end Go.Proofs.YtakcgeafcecimaaDoor
