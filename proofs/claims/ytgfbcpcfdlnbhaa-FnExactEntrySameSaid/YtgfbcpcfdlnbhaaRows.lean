/-
  No cell of these rows narrows 'for every input' (looked for: loops, veiled, ifaces, maps, wideKeys, modest, calm, conditions, laid).
  DERIVED. THE GIVEN ROWS OF THIS SEAT. 4 by the template 'for every input the law returns true; each argument reads behind the call as it read before'; 0 by the template 'total and deterministic' (their statements: YtgfbcpcfdlnbhaaTotals.lean).
  GIVEN WITH THE SEED: the statements are not yours to turn. If you find one false, say at which input.
  Laid BY PROGRAM, IN A SANDBOX (cutbox-rows.mjs): the forced cells as the released guide's own fill.sh prints them over the translation b8dade8cda6ea5e3… (all of the seat's roots in one cut). By AI agents, Wed Nov 11 2026. No macro, syntax, notation, axiom, sorry.
-/
import Derived.Test.YtgfbcpcfdlnbhaaChecked
import GoSem.Claim
import GoSem.ClaimJoined
import GoSem.ClaimMapViews
import Derived.JoinedTies
import Derived.KernelRfl
namespace Go.Proofs.Ytgfbcpcfdlnbhaa
/- THE CELL 'sum', in the pinned program and in every row, IS THE sha256 OF THE DUMP (.gsa) THAT YtgfbcpcfdlnbhaaProg.lean LOADS. Nothing in Lean hashes anything: it is a label: what it is worth is what the hold of that sum in a sandbox is worth. -/
noncomputable def Try.pinned : Pinned := { name := "ytgfbcpcfdlnbhaa", sum := "b8dade8cda6ea5e3d53bccc9e432324f6e4c8a8f48977ae1f948d774c8f8e8e6", checked := Try.checked }
namespace Rows
def none {H : Type} : Left H := { results := [], args := [] }

/-- 'laws.FnExactNameOk': WHATEVER THE INPUT: true; the input reads as it did. -/
def fnExactNameOkSpec : ChangeSpec := { name := "fnExactNameOk", fn := fun _ => fun
  | [d] => { results := [.lit (.bool true)], args := [d] }
  | _ => none }
def fnExactNameOkRow : OpenClaim := { program := "ytgfbcpcfdlnbhaa", sum := "b8dade8cda6ea5e3d53bccc9e432324f6e4c8a8f48977ae1f948d774c8f8e8e6", func := "loop.example/g00797/laws.FnExactNameOk", spec := "fnExactNameOk", apart := false }
def FnExactNameOkSaid : Prop := fnExactNameOkRow.holds Try.pinned (OpenSpec.ofChange fnExactNameOkSpec)

/-- ITS FALSE NEIGHBOUR: 'it returns false'. Refute it at one input. -/
def fnExactNameOkWrong : ChangeSpec := { name := "fnExactNameOk", fn := fun _ => fun
  | [d] => { results := [.lit (.bool false)], args := [d] }
  | _ => none }
def FnExactNameOkWrongFalsely : Prop := fnExactNameOkRow.holds Try.pinned (OpenSpec.ofChange fnExactNameOkWrong)

/-- 'laws.FnExactEntryOk': WHATEVER THE INPUT: true; the input reads as it did. -/
def fnExactEntryOkSpec : ChangeSpec := { name := "fnExactEntryOk", fn := fun _ => fun
  | [d] => { results := [.lit (.bool true)], args := [d] }
  | _ => none }
def fnExactEntryOkRow : OpenClaim := { program := "ytgfbcpcfdlnbhaa", sum := "b8dade8cda6ea5e3d53bccc9e432324f6e4c8a8f48977ae1f948d774c8f8e8e6", func := "loop.example/g00797/laws.FnExactEntryOk", spec := "fnExactEntryOk", unfollowed := true, recurses := true, apart := false }
def FnExactEntryOkSaid : Prop := fnExactEntryOkRow.holds Try.pinned (OpenSpec.ofChange fnExactEntryOkSpec)

/-- ITS FALSE NEIGHBOUR: 'it returns false'. Refute it at one input. -/
def fnExactEntryOkWrong : ChangeSpec := { name := "fnExactEntryOk", fn := fun _ => fun
  | [d] => { results := [.lit (.bool false)], args := [d] }
  | _ => none }
def FnExactEntryOkWrongFalsely : Prop := fnExactEntryOkRow.holds Try.pinned (OpenSpec.ofChange fnExactEntryOkWrong)

/-- 'laws.FnExactEntrySame': WHATEVER THE INPUT: true; the input reads as it did. -/
def fnExactEntrySameSpec : ChangeSpec := { name := "fnExactEntrySame", fn := fun _ => fun
  | [d1, d2] => { results := [.lit (.bool true)], args := [d1, d2] }
  | _ => none }
def fnExactEntrySameRow : OpenClaim := { program := "ytgfbcpcfdlnbhaa", sum := "b8dade8cda6ea5e3d53bccc9e432324f6e4c8a8f48977ae1f948d774c8f8e8e6", func := "loop.example/g00797/laws.FnExactEntrySame", spec := "fnExactEntrySame", unfollowed := true, recurses := true, apart := false }
def FnExactEntrySameSaid : Prop := fnExactEntrySameRow.holds Try.pinned (OpenSpec.ofChange fnExactEntrySameSpec)

/-- ITS FALSE NEIGHBOUR: 'it returns false'. Refute it at one input. -/
def fnExactEntrySameWrong : ChangeSpec := { name := "fnExactEntrySame", fn := fun _ => fun
  | [d1, d2] => { results := [.lit (.bool false)], args := [d1, d2] }
  | _ => none }
def FnExactEntrySameWrongFalsely : Prop := fnExactEntrySameRow.holds Try.pinned (OpenSpec.ofChange fnExactEntrySameWrong)

/-- 'laws.FnExactHeadRev': WHATEVER THE INPUT: true; the input reads as it did. -/
def fnExactHeadRevSpec : ChangeSpec := { name := "fnExactHeadRev", fn := fun _ => fun
  | [d] => { results := [.lit (.bool true)], args := [d] }
  | _ => none }
def fnExactHeadRevRow : OpenClaim := { program := "ytgfbcpcfdlnbhaa", sum := "b8dade8cda6ea5e3d53bccc9e432324f6e4c8a8f48977ae1f948d774c8f8e8e6", func := "loop.example/g00797/laws.FnExactHeadRev", spec := "fnExactHeadRev", apart := false }
def FnExactHeadRevSaid : Prop := fnExactHeadRevRow.holds Try.pinned (OpenSpec.ofChange fnExactHeadRevSpec)

/-- ITS FALSE NEIGHBOUR: 'it returns false'. Refute it at one input. -/
def fnExactHeadRevWrong : ChangeSpec := { name := "fnExactHeadRev", fn := fun _ => fun
  | [d] => { results := [.lit (.bool false)], args := [d] }
  | _ => none }
def FnExactHeadRevWrongFalsely : Prop := fnExactHeadRevRow.holds Try.pinned (OpenSpec.ofChange fnExactHeadRevWrong)

/- THE SECOND FORM. 'bulk': how many values and letters a reading holds, each counted each time it is reached (what is shared counts as often as it is met; a slice's spare places count too). A statement '..UptoSaid' is the law's where the arguments, and the package variables that the reading takes, are together of bulk at most 1048576: NARROWER than '..Said'. Prove '..Said' where nothing that the law and all that it calls make is longer than what came in: it says more and counts as full. Else prove '..UptoSaid'. A law counts once. -/
mutual
def uptoBulk {H : Type} : DataW H → Nat
  | .lit (.string bytes) => bytes.length + 1
  | .lit _ => 1
  | .nil => 1
  | .ptr d => uptoBulk d + 1
  | .slice elems spare => uptoBulkAll elems + uptoBulkAll spare + 1
  | .agg parts => uptoBulkAll parts + 1
  | .iface _ d => uptoBulk d + 1
  | .map entries => uptoBulkEntries entries + 1
  | .held _ => 1
def uptoBulkAll {H : Type} : List (DataW H) → Nat
  | [] => 0
  | d :: r => uptoBulk d + uptoBulkAll r
def uptoBulkEntries {H : Type} : List (Lit × DataW H) → Nat
  | [] => 0
  | x :: r => uptoBulkEntry x + uptoBulkEntries r
def uptoBulkEntry {H : Type} : Lit × DataW H → Nat
  | (.string bytes, d) => bytes.length + uptoBulk d + 1
  | (_, d) => uptoBulk d + 1
 end
def uptoSmall : (H : Type) → List (DataW H) → Bool := fun _ ds => decide (uptoBulkAll ds ≤ 1048576)
def OpenSpec.upto (s : _root_.Go.ChangeSpec) : _root_.Go.OpenSpec := { _root_.Go.OpenSpec.ofChange s with cond := some uptoSmall }

/-- 'laws.FnExactNameOk', WHERE WHAT IT READS IS OF BULK AT MOST 1048576: true; the input reads as it did. -/
def fnExactNameOkUptoRow : OpenClaim := { program := "ytgfbcpcfdlnbhaa", sum := "b8dade8cda6ea5e3d53bccc9e432324f6e4c8a8f48977ae1f948d774c8f8e8e6", func := "loop.example/g00797/laws.FnExactNameOk", spec := "fnExactNameOk", apart := false, narrowed := true }
def FnExactNameOkUptoSaid : Prop := fnExactNameOkUptoRow.holds Try.pinned (OpenSpec.upto fnExactNameOkSpec)

/-- 'laws.FnExactEntryOk', WHERE WHAT IT READS IS OF BULK AT MOST 1048576: true; the input reads as it did. -/
def fnExactEntryOkUptoRow : OpenClaim := { program := "ytgfbcpcfdlnbhaa", sum := "b8dade8cda6ea5e3d53bccc9e432324f6e4c8a8f48977ae1f948d774c8f8e8e6", func := "loop.example/g00797/laws.FnExactEntryOk", spec := "fnExactEntryOk", unfollowed := true, recurses := true, apart := false, narrowed := true }
def FnExactEntryOkUptoSaid : Prop := fnExactEntryOkUptoRow.holds Try.pinned (OpenSpec.upto fnExactEntryOkSpec)

/-- 'laws.FnExactEntrySame', WHERE WHAT IT READS IS OF BULK AT MOST 1048576: true; the input reads as it did. -/
def fnExactEntrySameUptoRow : OpenClaim := { program := "ytgfbcpcfdlnbhaa", sum := "b8dade8cda6ea5e3d53bccc9e432324f6e4c8a8f48977ae1f948d774c8f8e8e6", func := "loop.example/g00797/laws.FnExactEntrySame", spec := "fnExactEntrySame", unfollowed := true, recurses := true, apart := false, narrowed := true }
def FnExactEntrySameUptoSaid : Prop := fnExactEntrySameUptoRow.holds Try.pinned (OpenSpec.upto fnExactEntrySameSpec)

/-- 'laws.FnExactHeadRev', WHERE WHAT IT READS IS OF BULK AT MOST 1048576: true; the input reads as it did. -/
def fnExactHeadRevUptoRow : OpenClaim := { program := "ytgfbcpcfdlnbhaa", sum := "b8dade8cda6ea5e3d53bccc9e432324f6e4c8a8f48977ae1f948d774c8f8e8e6", func := "loop.example/g00797/laws.FnExactHeadRev", spec := "fnExactHeadRev", apart := false, narrowed := true }
def FnExactHeadRevUptoSaid : Prop := fnExactHeadRevUptoRow.holds Try.pinned (OpenSpec.upto fnExactHeadRevSpec)

end Rows
end Go.Proofs.Ytgfbcpcfdlnbhaa
