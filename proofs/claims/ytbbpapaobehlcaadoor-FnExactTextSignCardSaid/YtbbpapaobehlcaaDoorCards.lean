/-
  DERIVED. GIVEN WITH THE SEED: THE CARDS: each row of YtbbpapaobehlcaaDoorRows.lean that lists a variable, with what it lists TIED to the program's text (the seventh form; the later family's looks); each row that meets fmt, with fmt's text TOLD by the authors' own Lean function (tested against real Go, not proved from fmt's source: count such statements apart). THE CARD IS WHAT COUNTS. Prove the row's statement (the work); the ties are given (YtbbpapaobehlcaaDoorTie.lean); close each card by the builder's one call (the guide's Derived/Test/ToyasCard.lean, 'card_holds'). Laid BY PROGRAM, IN A SANDBOX (cutbox-door.mjs). By AI agents, Wed Nov 11 2026. No macro, syntax, notation, axiom, sorry.
-/
import Derived.Test.YtbbpapaobehlcaaDoorRows
import GoSem.ClaimSeven
namespace Go.Proofs.YtbbpapaobehlcaaDoor
namespace Rows

/-- THE TIED CARD OF 'laws.FnNorm'. -/
def fnNormCard : Claim7 := { stood := { row := fnNormRow, standIns := [], harness := (true, "706b4902503db6dcdd59f8b0ea98cb76b71a7f37d202becc5e820064103900f9"), looks := true }, kinds := [], alts := [], laidByText := true, laidKinds := [.data, .data, .data, .sentinel, .sentinel], laidTests := true, laidLooks := .later }
def FnNormCardSaid : Prop := Claim7.holds Tryd.pinned (.plain (OpenSpec.ofChange fnNormSpec)) fnNormCard

/-- THE TIED CARD OF 'laws.FnSigns'. -/
def fnSignsCard : Claim7 := { stood := { row := fnSignsRow, standIns := [], harness := (true, "706b4902503db6dcdd59f8b0ea98cb76b71a7f37d202becc5e820064103900f9"), looks := true }, kinds := [], alts := [], laidByText := true, laidKinds := [.data, .data, .data, .sentinel, .sentinel], laidTests := true, laidLooks := .later }
def FnSignsCardSaid : Prop := Claim7.holds Tryd.pinned (.plain (OpenSpec.ofChange fnSignsSpec)) fnSignsCard

/-- THE TIED CARD OF 'laws.FnExactSignText'. -/
def fnExactSignTextCard : Claim7 := { stood := { row := fnExactSignTextRow, standIns := [], harness := (true, "706b4902503db6dcdd59f8b0ea98cb76b71a7f37d202becc5e820064103900f9"), looks := true }, kinds := [], alts := [], laidByText := true, laidKinds := [.data, .data, .data], laidTests := true, laidLooks := .later }
def FnExactSignTextCardSaid : Prop := Claim7.holds Tryd.pinned (.plain (OpenSpec.ofChange fnExactSignTextSpec)) fnExactSignTextCard

/-- THE TIED CARD OF 'laws.FnExactTextSign'. -/
def fnExactTextSignCard : Claim7 := { stood := { row := fnExactTextSignRow, standIns := [], harness := (true, "706b4902503db6dcdd59f8b0ea98cb76b71a7f37d202becc5e820064103900f9"), looks := true }, kinds := [], alts := [], laidByText := true, laidKinds := [.data, .data, .data, .sentinel, .sentinel], laidTests := true, laidLooks := .later }
def FnExactTextSignCardSaid : Prop := Claim7.holds Tryd.pinned (.plain (OpenSpec.ofChange fnExactTextSignSpec)) fnExactTextSignCard

/-- THE TIED CARD OF 'laws.FnExactOpText'. -/
def fnExactOpTextCard : Claim7 := { stood := { row := fnExactOpTextRow, standIns := [], harness := (true, "706b4902503db6dcdd59f8b0ea98cb76b71a7f37d202becc5e820064103900f9"), looks := true }, kinds := [], alts := [], laidByText := true, laidKinds := [.data, .data, .data], laidTests := true, laidLooks := .later }
def FnExactOpTextCardSaid : Prop := Claim7.holds Tryd.pinned (.plain (OpenSpec.ofChange fnExactOpTextSpec)) fnExactOpTextCard

/-- THE TIED CARD OF 'laws.FnExactTextOp'. -/
def fnExactTextOpCard : Claim7 := { stood := { row := fnExactTextOpRow, standIns := [], harness := (true, "706b4902503db6dcdd59f8b0ea98cb76b71a7f37d202becc5e820064103900f9"), looks := true }, kinds := [], alts := [], laidByText := true, laidKinds := [.data, .data, .data, .sentinel, .sentinel], laidTests := true, laidLooks := .later }
def FnExactTextOpCardSaid : Prop := Claim7.holds Tryd.pinned (.plain (OpenSpec.ofChange fnExactTextOpSpec)) fnExactTextOpCard

/-- THE SECOND FORM's CARD OF 'laws.FnNorm'. -/
def fnNormUptoCard : Claim7 := { stood := { row := fnNormUptoRow, standIns := [], harness := (true, "706b4902503db6dcdd59f8b0ea98cb76b71a7f37d202becc5e820064103900f9"), looks := true }, kinds := [], alts := [], laidByText := true, laidKinds := [.data, .data, .data, .sentinel, .sentinel], laidTests := true, laidLooks := .later }
def FnNormUptoCardSaid : Prop := Claim7.holds Tryd.pinned (.plain (OpenSpec.upto fnNormSpec)) fnNormUptoCard

/-- THE SECOND FORM's CARD OF 'laws.FnSigns'. -/
def fnSignsUptoCard : Claim7 := { stood := { row := fnSignsUptoRow, standIns := [], harness := (true, "706b4902503db6dcdd59f8b0ea98cb76b71a7f37d202becc5e820064103900f9"), looks := true }, kinds := [], alts := [], laidByText := true, laidKinds := [.data, .data, .data, .sentinel, .sentinel], laidTests := true, laidLooks := .later }
def FnSignsUptoCardSaid : Prop := Claim7.holds Tryd.pinned (.plain (OpenSpec.upto fnSignsSpec)) fnSignsUptoCard

/-- THE SECOND FORM's CARD OF 'laws.FnExactSignText'. -/
def fnExactSignTextUptoCard : Claim7 := { stood := { row := fnExactSignTextUptoRow, standIns := [], harness := (true, "706b4902503db6dcdd59f8b0ea98cb76b71a7f37d202becc5e820064103900f9"), looks := true }, kinds := [], alts := [], laidByText := true, laidKinds := [.data, .data, .data], laidTests := true, laidLooks := .later }
def FnExactSignTextUptoCardSaid : Prop := Claim7.holds Tryd.pinned (.plain (OpenSpec.upto fnExactSignTextSpec)) fnExactSignTextUptoCard

/-- THE SECOND FORM's CARD OF 'laws.FnExactTextSign'. -/
def fnExactTextSignUptoCard : Claim7 := { stood := { row := fnExactTextSignUptoRow, standIns := [], harness := (true, "706b4902503db6dcdd59f8b0ea98cb76b71a7f37d202becc5e820064103900f9"), looks := true }, kinds := [], alts := [], laidByText := true, laidKinds := [.data, .data, .data, .sentinel, .sentinel], laidTests := true, laidLooks := .later }
def FnExactTextSignUptoCardSaid : Prop := Claim7.holds Tryd.pinned (.plain (OpenSpec.upto fnExactTextSignSpec)) fnExactTextSignUptoCard

/-- THE SECOND FORM's CARD OF 'laws.FnExactOpText'. -/
def fnExactOpTextUptoCard : Claim7 := { stood := { row := fnExactOpTextUptoRow, standIns := [], harness := (true, "706b4902503db6dcdd59f8b0ea98cb76b71a7f37d202becc5e820064103900f9"), looks := true }, kinds := [], alts := [], laidByText := true, laidKinds := [.data, .data, .data], laidTests := true, laidLooks := .later }
def FnExactOpTextUptoCardSaid : Prop := Claim7.holds Tryd.pinned (.plain (OpenSpec.upto fnExactOpTextSpec)) fnExactOpTextUptoCard

/-- THE SECOND FORM's CARD OF 'laws.FnExactTextOp'. -/
def fnExactTextOpUptoCard : Claim7 := { stood := { row := fnExactTextOpUptoRow, standIns := [], harness := (true, "706b4902503db6dcdd59f8b0ea98cb76b71a7f37d202becc5e820064103900f9"), looks := true }, kinds := [], alts := [], laidByText := true, laidKinds := [.data, .data, .data, .sentinel, .sentinel], laidTests := true, laidLooks := .later }
def FnExactTextOpUptoCardSaid : Prop := Claim7.holds Tryd.pinned (.plain (OpenSpec.upto fnExactTextOpSpec)) fnExactTextOpUptoCard
end Rows
end Go.Proofs.YtbbpapaobehlcaaDoor
