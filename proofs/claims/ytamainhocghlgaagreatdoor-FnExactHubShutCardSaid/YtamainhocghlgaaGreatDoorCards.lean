/-
  DERIVED. GIVEN WITH THE SEED: THE CARDS: each row of YtamainhocghlgaaGreatDoorRows.lean that lists a variable, with what it lists TIED to the program's text (the seventh form; the later family's looks); each row that meets fmt, with fmt's text TOLD by the authors' own Lean function (tested against real Go, not proved from fmt's source: count such statements apart). THE CARD IS WHAT COUNTS. Prove the row's statement (the work); the ties are given (YtamainhocghlgaaGreatDoorTie.lean); close each card by the builder's one call (the guide's Derived/Test/ToyasCard.lean, 'card_holds'). Laid BY PROGRAM, IN A SANDBOX (cutbox-door.mjs). By AI agents, Wed Nov 11 2026. No macro, syntax, notation, axiom, sorry.
-/
import Derived.Test.YtamainhocghlgaaGreatDoorRows
import GoSem.ClaimSeven
namespace Go.Proofs.YtamainhocghlgaaGreatDoor
namespace Rows

/-- THE TIED CARD OF 'laws.FnExactHubShut'. -/
def fnExactHubShutCard : Claim7 := { stood := { row := fnExactHubShutRow, standIns := [], harness := (true, "abb553b9b5f7d34804eaf80a57bc1a4fc3fa9c5a8da2395297ca4e9cb59aabcb"), looks := true }, kinds := [], alts := [], laidByText := true, laidKinds := [.handle], laidTests := true, laidLooks := .later }
def FnExactHubShutCardSaid : Prop := Claim7.holds Tryz.pinned (.plain (OpenSpec.ofChange fnExactHubShutSpec)) fnExactHubShutCard

/-- THE SECOND FORM's CARD OF 'laws.FnExactHubShut'. -/
def fnExactHubShutUptoCard : Claim7 := { stood := { row := fnExactHubShutUptoRow, standIns := [], harness := (true, "abb553b9b5f7d34804eaf80a57bc1a4fc3fa9c5a8da2395297ca4e9cb59aabcb"), looks := true }, kinds := [], alts := [], laidByText := true, laidKinds := [.handle], laidTests := true, laidLooks := .later }
def FnExactHubShutUptoCardSaid : Prop := Claim7.holds Tryz.pinned (.plain (OpenSpec.upto fnExactHubShutSpec)) fnExactHubShutUptoCard
end Rows
end Go.Proofs.YtamainhocghlgaaGreatDoor
