/-
  DERIVED. GIVEN WITH THE SEED: THE CARDS: each row of YtglklgnggkenhaaGreatDoorRows.lean that lists a variable, with what it lists TIED to the program's text (the seventh form; the later family's looks); each row that meets fmt, with fmt's text TOLD by the authors' own Lean function (tested against real Go, not proved from fmt's source: count such statements apart). THE CARD IS WHAT COUNTS. Prove the row's statement (the work); the ties are given (YtglklgnggkenhaaGreatDoorTie.lean); close each card by the builder's one call (the guide's Derived/Test/ToyasCard.lean, 'card_holds'). Laid BY PROGRAM, IN A SANDBOX (cutbox-door.mjs). By AI agents, Wed Nov 11 2026. No macro, syntax, notation, axiom, sorry.
-/
import Derived.Test.YtglklgnggkenhaaGreatDoorRows
import GoSem.ClaimSeven
namespace Go.Proofs.YtglklgnggkenhaaGreatDoor
namespace Rows

/-- THE TIED CARD OF 'laws.FnExactSubmit'. -/
def fnExactSubmitCard : Claim7 := { stood := { row := fnExactSubmitRow, standIns := [], harness := (true, "595bf7a0704ac44981652b4b25d407be4001a2f95205e7f7a834d2096205ce2d"), looks := true }, kinds := [], alts := [], laidByText := true, laidKinds := [.handle], laidTests := true, laidLooks := .later }
def FnExactSubmitCardSaid : Prop := Claim7.holds Tryz.pinned (.plain (OpenSpec.ofChange fnExactSubmitSpec)) fnExactSubmitCard

/-- THE SECOND FORM's CARD OF 'laws.FnExactSubmit'. -/
def fnExactSubmitUptoCard : Claim7 := { stood := { row := fnExactSubmitUptoRow, standIns := [], harness := (true, "595bf7a0704ac44981652b4b25d407be4001a2f95205e7f7a834d2096205ce2d"), looks := true }, kinds := [], alts := [], laidByText := true, laidKinds := [.handle], laidTests := true, laidLooks := .later }
def FnExactSubmitUptoCardSaid : Prop := Claim7.holds Tryz.pinned (.plain (OpenSpec.upto fnExactSubmitSpec)) fnExactSubmitUptoCard
end Rows
end Go.Proofs.YtglklgnggkenhaaGreatDoor
