/-
  DERIVED. GIVEN WITH THE SEED: THE CARDS: each row of YtbpeeokgpkjnmaaGreatDoorRows.lean that lists a variable, with what it lists TIED to the program's text (the seventh form; the later family's looks); each row that meets fmt, with fmt's text TOLD by the authors' own Lean function (tested against real Go, not proved from fmt's source: count such statements apart). THE CARD IS WHAT COUNTS. Prove the row's statement (the work); the ties are given (YtbpeeokgpkjnmaaGreatDoorTie.lean); close each card by the builder's one call (the guide's Derived/Test/ToyasCard.lean, 'card_holds'). Laid BY PROGRAM, IN A SANDBOX (cutbox-door.mjs). By AI agents, Wed Nov 11 2026. No macro, syntax, notation, axiom, sorry.
-/
import Derived.Test.YtbpeeokgpkjnmaaGreatDoorRows
import GoSem.ClaimSeven
namespace Go.Proofs.YtbpeeokgpkjnmaaGreatDoor
namespace Rows

/-- THE TIED CARD OF 'laws.FnExactRebase'. -/
def fnExactRebaseCard : Claim7 := { stood := { row := fnExactRebaseRow, standIns := [], harness := (true, "e782631a579a946c68a9e49ced2732285f5a5dbfe2a911700d707e3dbbacc3c9"), looks := true }, kinds := [], alts := [], laidByText := true, laidKinds := [.handle], laidTests := true, laidLooks := .later }
def FnExactRebaseCardSaid : Prop := Claim7.holds Tryz.pinned (.plain (OpenSpec.ofChange fnExactRebaseSpec)) fnExactRebaseCard

/-- THE TIED CARD OF 'laws.FnExactFetch'. -/
def fnExactFetchCard : Claim7 := { stood := { row := fnExactFetchRow, standIns := [], harness := (true, "e782631a579a946c68a9e49ced2732285f5a5dbfe2a911700d707e3dbbacc3c9"), looks := true }, kinds := [], alts := [], laidByText := true, laidKinds := [.handle], laidTests := true, laidLooks := .later }
def FnExactFetchCardSaid : Prop := Claim7.holds Tryz.pinned (.plain (OpenSpec.ofChange fnExactFetchSpec)) fnExactFetchCard

/-- THE TIED CARD OF 'laws.FnExactMissed'. -/
def fnExactMissedCard : Claim7 := { stood := { row := fnExactMissedRow, standIns := [], harness := (true, "e782631a579a946c68a9e49ced2732285f5a5dbfe2a911700d707e3dbbacc3c9"), looks := true }, kinds := [], alts := [], laidByText := true, laidKinds := [.handle], laidTests := true, laidLooks := .later }
def FnExactMissedCardSaid : Prop := Claim7.holds Tryz.pinned (.plain (OpenSpec.ofChange fnExactMissedSpec)) fnExactMissedCard

/-- THE SECOND FORM's CARD OF 'laws.FnExactRebase'. -/
def fnExactRebaseUptoCard : Claim7 := { stood := { row := fnExactRebaseUptoRow, standIns := [], harness := (true, "e782631a579a946c68a9e49ced2732285f5a5dbfe2a911700d707e3dbbacc3c9"), looks := true }, kinds := [], alts := [], laidByText := true, laidKinds := [.handle], laidTests := true, laidLooks := .later }
def FnExactRebaseUptoCardSaid : Prop := Claim7.holds Tryz.pinned (.plain (OpenSpec.upto fnExactRebaseSpec)) fnExactRebaseUptoCard

/-- THE SECOND FORM's CARD OF 'laws.FnExactFetch'. -/
def fnExactFetchUptoCard : Claim7 := { stood := { row := fnExactFetchUptoRow, standIns := [], harness := (true, "e782631a579a946c68a9e49ced2732285f5a5dbfe2a911700d707e3dbbacc3c9"), looks := true }, kinds := [], alts := [], laidByText := true, laidKinds := [.handle], laidTests := true, laidLooks := .later }
def FnExactFetchUptoCardSaid : Prop := Claim7.holds Tryz.pinned (.plain (OpenSpec.upto fnExactFetchSpec)) fnExactFetchUptoCard

/-- THE SECOND FORM's CARD OF 'laws.FnExactMissed'. -/
def fnExactMissedUptoCard : Claim7 := { stood := { row := fnExactMissedUptoRow, standIns := [], harness := (true, "e782631a579a946c68a9e49ced2732285f5a5dbfe2a911700d707e3dbbacc3c9"), looks := true }, kinds := [], alts := [], laidByText := true, laidKinds := [.handle], laidTests := true, laidLooks := .later }
def FnExactMissedUptoCardSaid : Prop := Claim7.holds Tryz.pinned (.plain (OpenSpec.upto fnExactMissedSpec)) fnExactMissedUptoCard
end Rows
end Go.Proofs.YtbpeeokgpkjnmaaGreatDoor
