/-
  DERIVED. GIVEN WITH THE SEED: THE CARDS: each row of YtcpaenmhnoagdaaDoorRows.lean that lists a variable, with what it lists TIED to the program's text (the seventh form; the later family's looks); each row that meets fmt, with fmt's text TOLD by the authors' own Lean function (tested against real Go, not proved from fmt's source: count such statements apart). THE CARD IS WHAT COUNTS. Prove the row's statement (the work); the ties are given (YtcpaenmhnoagdaaDoorTie.lean); close each card by the builder's one call (the guide's Derived/Test/ToyasCard.lean, 'card_holds'). Laid BY PROGRAM, IN A SANDBOX (cutbox-door.mjs). By AI agents, Wed Nov 11 2026. No macro, syntax, notation, axiom, sorry.
-/
import Derived.Test.YtcpaenmhnoagdaaDoorRows
import GoSem.ClaimSeven
namespace Go.Proofs.YtcpaenmhnoagdaaDoor
namespace Rows

/-- THE TIED CARD OF 'laws.FnExactBunchText'. -/
def fnExactBunchTextCard : Claim7 := { stood := { row := fnExactBunchTextRow, standIns := [], harness := (true, "4c7a6ed12c84e3200d2be75c82998e1d2ecb66fbb1d828725dc81baae9b0277f"), looks := false }, kinds := [], alts := [], laidByText := true, laidKinds := [.data, .data, .data], laidTests := true, laidLooks := .later }
def FnExactBunchTextCardSaid : Prop := Claim7.holds Tryd.pinned (.plain (OpenSpec.ofChange fnExactBunchTextSpec)) fnExactBunchTextCard

/-- THE TIED CARD OF 'laws.FnBundles'. -/
def fnBundlesCard : Claim7 := { stood := { row := fnBundlesRow, standIns := [], harness := (true, "4c7a6ed12c84e3200d2be75c82998e1d2ecb66fbb1d828725dc81baae9b0277f"), looks := false }, kinds := [], alts := [], laidByText := true, laidKinds := [.data, .data, .data], laidTests := true, laidLooks := .later }
def FnBundlesCardSaid : Prop := Claim7.holds Tryd.pinned (.plain (OpenSpec.ofChange fnBundlesSpec)) fnBundlesCard

/-- THE SECOND FORM's CARD OF 'laws.FnExactBunchText'. -/
def fnExactBunchTextUptoCard : Claim7 := { stood := { row := fnExactBunchTextUptoRow, standIns := [], harness := (true, "4c7a6ed12c84e3200d2be75c82998e1d2ecb66fbb1d828725dc81baae9b0277f"), looks := false }, kinds := [], alts := [], laidByText := true, laidKinds := [.data, .data, .data], laidTests := true, laidLooks := .later }
def FnExactBunchTextUptoCardSaid : Prop := Claim7.holds Tryd.pinned (.plain (OpenSpec.upto fnExactBunchTextSpec)) fnExactBunchTextUptoCard

/-- THE SECOND FORM's CARD OF 'laws.FnBundles'. -/
def fnBundlesUptoCard : Claim7 := { stood := { row := fnBundlesUptoRow, standIns := [], harness := (true, "4c7a6ed12c84e3200d2be75c82998e1d2ecb66fbb1d828725dc81baae9b0277f"), looks := false }, kinds := [], alts := [], laidByText := true, laidKinds := [.data, .data, .data], laidTests := true, laidLooks := .later }
def FnBundlesUptoCardSaid : Prop := Claim7.holds Tryd.pinned (.plain (OpenSpec.upto fnBundlesSpec)) fnBundlesUptoCard
end Rows
end Go.Proofs.YtcpaenmhnoagdaaDoor
