/-
  No cell of these rows narrows 'for every input' (looked for: loops, veiled, ifaces, maps, wideKeys, modest, calm, conditions, laid).
  DERIVED. THE GIVEN ROWS OF THIS SEAT. 10 by the template 'for every input the law returns true; each argument reads behind the call as it read before'; 0 by the template 'total and deterministic' (their statements: YteokiohfebklmaaTotals.lean).
  GIVEN WITH THE SEED: the statements are not yours to turn. If you find one false, say at which input.
  Laid BY PROGRAM, IN A SANDBOX (cutbox-rows.mjs): the forced cells as the released guide's own fill.sh prints them over the translation fde55761d41bbab2… (all of the seat's roots in one cut). By AI agents, Wed Nov 11 2026. No macro, syntax, notation, axiom, sorry.
-/
import Derived.Test.YteokiohfebklmaaChecked
import GoSem.Claim
import GoSem.ClaimJoined
import GoSem.ClaimMapViews
import Derived.JoinedTies
import Derived.KernelRfl
namespace Go.Proofs.Yteokiohfebklmaa
/- THE CELL 'sum', in the pinned program and in every row, IS THE sha256 OF THE DUMP (.gsa) THAT YteokiohfebklmaaProg.lean LOADS. Nothing in Lean hashes anything: it is a label: what it is worth is what the hold of that sum in a sandbox is worth. -/
noncomputable def Try.pinned : Pinned := { name := "yteokiohfebklmaa", sum := "fde55761d41bbab207d8193bfde7be1ba465e8de5a658d61c36af199bd221ff7", checked := Try.checked }
namespace Rows
def none {H : Type} : Left H := { results := [], args := [] }

/-- 'laws.FnExactPartOk': WHATEVER THE INPUT: true; the input reads as it did. -/
def fnExactPartOkSpec : ChangeSpec := { name := "fnExactPartOk", fn := fun _ => fun
  | [d] => { results := [.lit (.bool true)], args := [d] }
  | _ => none }
def fnExactPartOkRow : OpenClaim := { program := "yteokiohfebklmaa", sum := "fde55761d41bbab207d8193bfde7be1ba465e8de5a658d61c36af199bd221ff7", func := "loop.example/g00797/laws.FnExactPartOk", spec := "fnExactPartOk", apart := false }
def FnExactPartOkSaid : Prop := fnExactPartOkRow.holds Try.pinned (OpenSpec.ofChange fnExactPartOkSpec)

/-- ITS FALSE NEIGHBOUR: 'it returns false'. Refute it at one input. -/
def fnExactPartOkWrong : ChangeSpec := { name := "fnExactPartOk", fn := fun _ => fun
  | [d] => { results := [.lit (.bool false)], args := [d] }
  | _ => none }
def FnExactPartOkWrongFalsely : Prop := fnExactPartOkRow.holds Try.pinned (OpenSpec.ofChange fnExactPartOkWrong)

/-- 'laws.FnExactOpFrom': WHATEVER THE INPUT: true; the input reads as it did. -/
def fnExactOpFromSpec : ChangeSpec := { name := "fnExactOpFrom", fn := fun _ => fun
  | [d] => { results := [.lit (.bool true)], args := [d] }
  | _ => none }
def fnExactOpFromRow : OpenClaim := { program := "yteokiohfebklmaa", sum := "fde55761d41bbab207d8193bfde7be1ba465e8de5a658d61c36af199bd221ff7", func := "loop.example/g00797/laws.FnExactOpFrom", spec := "fnExactOpFrom", apart := false }
def FnExactOpFromSaid : Prop := fnExactOpFromRow.holds Try.pinned (OpenSpec.ofChange fnExactOpFromSpec)

/-- ITS FALSE NEIGHBOUR: 'it returns false'. Refute it at one input. -/
def fnExactOpFromWrong : ChangeSpec := { name := "fnExactOpFrom", fn := fun _ => fun
  | [d] => { results := [.lit (.bool false)], args := [d] }
  | _ => none }
def FnExactOpFromWrongFalsely : Prop := fnExactOpFromRow.holds Try.pinned (OpenSpec.ofChange fnExactOpFromWrong)

/-- 'laws.FnExactOpTo': WHATEVER THE INPUT: true; the input reads as it did. -/
def fnExactOpToSpec : ChangeSpec := { name := "fnExactOpTo", fn := fun _ => fun
  | [d] => { results := [.lit (.bool true)], args := [d] }
  | _ => none }
def fnExactOpToRow : OpenClaim := { program := "yteokiohfebklmaa", sum := "fde55761d41bbab207d8193bfde7be1ba465e8de5a658d61c36af199bd221ff7", func := "loop.example/g00797/laws.FnExactOpTo", spec := "fnExactOpTo", apart := false }
def FnExactOpToSaid : Prop := fnExactOpToRow.holds Try.pinned (OpenSpec.ofChange fnExactOpToSpec)

/-- ITS FALSE NEIGHBOUR: 'it returns false'. Refute it at one input. -/
def fnExactOpToWrong : ChangeSpec := { name := "fnExactOpTo", fn := fun _ => fun
  | [d] => { results := [.lit (.bool false)], args := [d] }
  | _ => none }
def FnExactOpToWrongFalsely : Prop := fnExactOpToRow.holds Try.pinned (OpenSpec.ofChange fnExactOpToWrong)

/-- 'laws.FnExactOpOk': WHATEVER THE INPUT: true; the input reads as it did. -/
def fnExactOpOkSpec : ChangeSpec := { name := "fnExactOpOk", fn := fun _ => fun
  | [d] => { results := [.lit (.bool true)], args := [d] }
  | _ => none }
def fnExactOpOkRow : OpenClaim := { program := "yteokiohfebklmaa", sum := "fde55761d41bbab207d8193bfde7be1ba465e8de5a658d61c36af199bd221ff7", func := "loop.example/g00797/laws.FnExactOpOk", spec := "fnExactOpOk", apart := false }
def FnExactOpOkSaid : Prop := fnExactOpOkRow.holds Try.pinned (OpenSpec.ofChange fnExactOpOkSpec)

/-- ITS FALSE NEIGHBOUR: 'it returns false'. Refute it at one input. -/
def fnExactOpOkWrong : ChangeSpec := { name := "fnExactOpOk", fn := fun _ => fun
  | [d] => { results := [.lit (.bool false)], args := [d] }
  | _ => none }
def FnExactOpOkWrongFalsely : Prop := fnExactOpOkRow.holds Try.pinned (OpenSpec.ofChange fnExactOpOkWrong)

/-- 'laws.FnExactOpNorm': WHATEVER THE INPUT: true; the input reads as it did. -/
def fnExactOpNormSpec : ChangeSpec := { name := "fnExactOpNorm", fn := fun _ => fun
  | [d] => { results := [.lit (.bool true)], args := [d] }
  | _ => none }
def fnExactOpNormRow : OpenClaim := { program := "yteokiohfebklmaa", sum := "fde55761d41bbab207d8193bfde7be1ba465e8de5a658d61c36af199bd221ff7", func := "loop.example/g00797/laws.FnExactOpNorm", spec := "fnExactOpNorm", apart := false }
def FnExactOpNormSaid : Prop := fnExactOpNormRow.holds Try.pinned (OpenSpec.ofChange fnExactOpNormSpec)

/-- ITS FALSE NEIGHBOUR: 'it returns false'. Refute it at one input. -/
def fnExactOpNormWrong : ChangeSpec := { name := "fnExactOpNorm", fn := fun _ => fun
  | [d] => { results := [.lit (.bool false)], args := [d] }
  | _ => none }
def FnExactOpNormWrongFalsely : Prop := fnExactOpNormRow.holds Try.pinned (OpenSpec.ofChange fnExactOpNormWrong)

/-- 'laws.FnExactOpSame': WHATEVER THE INPUT: true; the input reads as it did. -/
def fnExactOpSameSpec : ChangeSpec := { name := "fnExactOpSame", fn := fun _ => fun
  | [d1, d2] => { results := [.lit (.bool true)], args := [d1, d2] }
  | _ => none }
def fnExactOpSameRow : OpenClaim := { program := "yteokiohfebklmaa", sum := "fde55761d41bbab207d8193bfde7be1ba465e8de5a658d61c36af199bd221ff7", func := "loop.example/g00797/laws.FnExactOpSame", spec := "fnExactOpSame", unfollowed := true, recurses := true, apart := false }
def FnExactOpSameSaid : Prop := fnExactOpSameRow.holds Try.pinned (OpenSpec.ofChange fnExactOpSameSpec)

/-- ITS FALSE NEIGHBOUR: 'it returns false'. Refute it at one input. -/
def fnExactOpSameWrong : ChangeSpec := { name := "fnExactOpSame", fn := fun _ => fun
  | [d1, d2] => { results := [.lit (.bool false)], args := [d1, d2] }
  | _ => none }
def FnExactOpSameWrongFalsely : Prop := fnExactOpSameRow.holds Try.pinned (OpenSpec.ofChange fnExactOpSameWrong)

/-- 'laws.FnExactIsNorm': WHATEVER THE INPUT: true; the input reads as it did. -/
def fnExactIsNormSpec : ChangeSpec := { name := "fnExactIsNorm", fn := fun _ => fun
  | [d] => { results := [.lit (.bool true)], args := [d] }
  | _ => none }
def fnExactIsNormRow : OpenClaim := { program := "yteokiohfebklmaa", sum := "fde55761d41bbab207d8193bfde7be1ba465e8de5a658d61c36af199bd221ff7", func := "loop.example/g00797/laws.FnExactIsNorm", spec := "fnExactIsNorm", unfollowed := true, recurses := true, apart := false }
def FnExactIsNormSaid : Prop := fnExactIsNormRow.holds Try.pinned (OpenSpec.ofChange fnExactIsNormSpec)

/-- ITS FALSE NEIGHBOUR: 'it returns false'. Refute it at one input. -/
def fnExactIsNormWrong : ChangeSpec := { name := "fnExactIsNorm", fn := fun _ => fun
  | [d] => { results := [.lit (.bool false)], args := [d] }
  | _ => none }
def FnExactIsNormWrongFalsely : Prop := fnExactIsNormRow.holds Try.pinned (OpenSpec.ofChange fnExactIsNormWrong)

/-- 'laws.FnExactKeeping': WHATEVER THE INPUT: true; the input reads as it did. -/
def fnExactKeepingSpec : ChangeSpec := { name := "fnExactKeeping", fn := fun _ => fun
  | [d] => { results := [.lit (.bool true)], args := [d] }
  | _ => none }
def fnExactKeepingRow : OpenClaim := { program := "yteokiohfebklmaa", sum := "fde55761d41bbab207d8193bfde7be1ba465e8de5a658d61c36af199bd221ff7", func := "loop.example/g00797/laws.FnExactKeeping", spec := "fnExactKeeping", apart := false }
def FnExactKeepingSaid : Prop := fnExactKeepingRow.holds Try.pinned (OpenSpec.ofChange fnExactKeepingSpec)

/-- ITS FALSE NEIGHBOUR: 'it returns false'. Refute it at one input. -/
def fnExactKeepingWrong : ChangeSpec := { name := "fnExactKeeping", fn := fun _ => fun
  | [d] => { results := [.lit (.bool false)], args := [d] }
  | _ => none }
def FnExactKeepingWrongFalsely : Prop := fnExactKeepingRow.holds Try.pinned (OpenSpec.ofChange fnExactKeepingWrong)

/-- 'laws.FnExactPuts': WHATEVER THE INPUT: true; the input reads as it did. -/
def fnExactPutsSpec : ChangeSpec := { name := "fnExactPuts", fn := fun _ => fun
  | [d] => { results := [.lit (.bool true)], args := [d] }
  | _ => none }
def fnExactPutsRow : OpenClaim := { program := "yteokiohfebklmaa", sum := "fde55761d41bbab207d8193bfde7be1ba465e8de5a658d61c36af199bd221ff7", func := "loop.example/g00797/laws.FnExactPuts", spec := "fnExactPuts", apart := false }
def FnExactPutsSaid : Prop := fnExactPutsRow.holds Try.pinned (OpenSpec.ofChange fnExactPutsSpec)

/-- ITS FALSE NEIGHBOUR: 'it returns false'. Refute it at one input. -/
def fnExactPutsWrong : ChangeSpec := { name := "fnExactPuts", fn := fun _ => fun
  | [d] => { results := [.lit (.bool false)], args := [d] }
  | _ => none }
def FnExactPutsWrongFalsely : Prop := fnExactPutsRow.holds Try.pinned (OpenSpec.ofChange fnExactPutsWrong)

/-- 'laws.FnExactDrops': WHATEVER THE INPUT: true; the input reads as it did. -/
def fnExactDropsSpec : ChangeSpec := { name := "fnExactDrops", fn := fun _ => fun
  | [d] => { results := [.lit (.bool true)], args := [d] }
  | _ => none }
def fnExactDropsRow : OpenClaim := { program := "yteokiohfebklmaa", sum := "fde55761d41bbab207d8193bfde7be1ba465e8de5a658d61c36af199bd221ff7", func := "loop.example/g00797/laws.FnExactDrops", spec := "fnExactDrops", apart := false }
def FnExactDropsSaid : Prop := fnExactDropsRow.holds Try.pinned (OpenSpec.ofChange fnExactDropsSpec)

/-- ITS FALSE NEIGHBOUR: 'it returns false'. Refute it at one input. -/
def fnExactDropsWrong : ChangeSpec := { name := "fnExactDrops", fn := fun _ => fun
  | [d] => { results := [.lit (.bool false)], args := [d] }
  | _ => none }
def FnExactDropsWrongFalsely : Prop := fnExactDropsRow.holds Try.pinned (OpenSpec.ofChange fnExactDropsWrong)

/- THE SECOND FORM. 'bulk': how many values and letters a reading holds, each counted each time it is reached (what is shared counts as often as it is met; a slice's spare places count too). A statement '..UptoSaid' is the law's where the arguments, and the package variables that the reading takes, are together of bulk at most 1048576: NARROWER than '..Said'. Prove '..Said' where nothing that the law and all that it calls make is longer than what came in: it says more and counts as full. Else prove '..UptoSaid'. A law counts once. -/
mutual
def uptoBulk {H : Type} : DataW H → Nat
  | .lit (.string bytes) => bytes.length + 1
  | .lit _ => 1
  | .nil => 1
  | .ptr d => uptoBulk d + 1
  | .slice elems spare => uptoBulkAll elems + uptoBulkAll spare + 1
  | .agg parts => uptoBulkAll parts + 1
  | .iface _ d => uptoBulk d + 1
  | .map entries => uptoBulkEntries entries + 1
  | .held _ => 1
def uptoBulkAll {H : Type} : List (DataW H) → Nat
  | [] => 0
  | d :: r => uptoBulk d + uptoBulkAll r
def uptoBulkEntries {H : Type} : List (Lit × DataW H) → Nat
  | [] => 0
  | x :: r => uptoBulkEntry x + uptoBulkEntries r
def uptoBulkEntry {H : Type} : Lit × DataW H → Nat
  | (.string bytes, d) => bytes.length + uptoBulk d + 1
  | (_, d) => uptoBulk d + 1
 end
def uptoSmall : (H : Type) → List (DataW H) → Bool := fun _ ds => decide (uptoBulkAll ds ≤ 1048576)
def OpenSpec.upto (s : _root_.Go.ChangeSpec) : _root_.Go.OpenSpec := { _root_.Go.OpenSpec.ofChange s with cond := some uptoSmall }

/-- 'laws.FnExactPartOk', WHERE WHAT IT READS IS OF BULK AT MOST 1048576: true; the input reads as it did. -/
def fnExactPartOkUptoRow : OpenClaim := { program := "yteokiohfebklmaa", sum := "fde55761d41bbab207d8193bfde7be1ba465e8de5a658d61c36af199bd221ff7", func := "loop.example/g00797/laws.FnExactPartOk", spec := "fnExactPartOk", apart := false, narrowed := true }
def FnExactPartOkUptoSaid : Prop := fnExactPartOkUptoRow.holds Try.pinned (OpenSpec.upto fnExactPartOkSpec)

/-- 'laws.FnExactOpFrom', WHERE WHAT IT READS IS OF BULK AT MOST 1048576: true; the input reads as it did. -/
def fnExactOpFromUptoRow : OpenClaim := { program := "yteokiohfebklmaa", sum := "fde55761d41bbab207d8193bfde7be1ba465e8de5a658d61c36af199bd221ff7", func := "loop.example/g00797/laws.FnExactOpFrom", spec := "fnExactOpFrom", apart := false, narrowed := true }
def FnExactOpFromUptoSaid : Prop := fnExactOpFromUptoRow.holds Try.pinned (OpenSpec.upto fnExactOpFromSpec)

/-- 'laws.FnExactOpTo', WHERE WHAT IT READS IS OF BULK AT MOST 1048576: true; the input reads as it did. -/
def fnExactOpToUptoRow : OpenClaim := { program := "yteokiohfebklmaa", sum := "fde55761d41bbab207d8193bfde7be1ba465e8de5a658d61c36af199bd221ff7", func := "loop.example/g00797/laws.FnExactOpTo", spec := "fnExactOpTo", apart := false, narrowed := true }
def FnExactOpToUptoSaid : Prop := fnExactOpToUptoRow.holds Try.pinned (OpenSpec.upto fnExactOpToSpec)

/-- 'laws.FnExactOpOk', WHERE WHAT IT READS IS OF BULK AT MOST 1048576: true; the input reads as it did. -/
def fnExactOpOkUptoRow : OpenClaim := { program := "yteokiohfebklmaa", sum := "fde55761d41bbab207d8193bfde7be1ba465e8de5a658d61c36af199bd221ff7", func := "loop.example/g00797/laws.FnExactOpOk", spec := "fnExactOpOk", apart := false, narrowed := true }
def FnExactOpOkUptoSaid : Prop := fnExactOpOkUptoRow.holds Try.pinned (OpenSpec.upto fnExactOpOkSpec)

/-- 'laws.FnExactOpNorm', WHERE WHAT IT READS IS OF BULK AT MOST 1048576: true; the input reads as it did. -/
def fnExactOpNormUptoRow : OpenClaim := { program := "yteokiohfebklmaa", sum := "fde55761d41bbab207d8193bfde7be1ba465e8de5a658d61c36af199bd221ff7", func := "loop.example/g00797/laws.FnExactOpNorm", spec := "fnExactOpNorm", apart := false, narrowed := true }
def FnExactOpNormUptoSaid : Prop := fnExactOpNormUptoRow.holds Try.pinned (OpenSpec.upto fnExactOpNormSpec)

/-- 'laws.FnExactOpSame', WHERE WHAT IT READS IS OF BULK AT MOST 1048576: true; the input reads as it did. -/
def fnExactOpSameUptoRow : OpenClaim := { program := "yteokiohfebklmaa", sum := "fde55761d41bbab207d8193bfde7be1ba465e8de5a658d61c36af199bd221ff7", func := "loop.example/g00797/laws.FnExactOpSame", spec := "fnExactOpSame", unfollowed := true, recurses := true, apart := false, narrowed := true }
def FnExactOpSameUptoSaid : Prop := fnExactOpSameUptoRow.holds Try.pinned (OpenSpec.upto fnExactOpSameSpec)

/-- 'laws.FnExactIsNorm', WHERE WHAT IT READS IS OF BULK AT MOST 1048576: true; the input reads as it did. -/
def fnExactIsNormUptoRow : OpenClaim := { program := "yteokiohfebklmaa", sum := "fde55761d41bbab207d8193bfde7be1ba465e8de5a658d61c36af199bd221ff7", func := "loop.example/g00797/laws.FnExactIsNorm", spec := "fnExactIsNorm", unfollowed := true, recurses := true, apart := false, narrowed := true }
def FnExactIsNormUptoSaid : Prop := fnExactIsNormUptoRow.holds Try.pinned (OpenSpec.upto fnExactIsNormSpec)

/-- 'laws.FnExactKeeping', WHERE WHAT IT READS IS OF BULK AT MOST 1048576: true; the input reads as it did. -/
def fnExactKeepingUptoRow : OpenClaim := { program := "yteokiohfebklmaa", sum := "fde55761d41bbab207d8193bfde7be1ba465e8de5a658d61c36af199bd221ff7", func := "loop.example/g00797/laws.FnExactKeeping", spec := "fnExactKeeping", apart := false, narrowed := true }
def FnExactKeepingUptoSaid : Prop := fnExactKeepingUptoRow.holds Try.pinned (OpenSpec.upto fnExactKeepingSpec)

/-- 'laws.FnExactPuts', WHERE WHAT IT READS IS OF BULK AT MOST 1048576: true; the input reads as it did. -/
def fnExactPutsUptoRow : OpenClaim := { program := "yteokiohfebklmaa", sum := "fde55761d41bbab207d8193bfde7be1ba465e8de5a658d61c36af199bd221ff7", func := "loop.example/g00797/laws.FnExactPuts", spec := "fnExactPuts", apart := false, narrowed := true }
def FnExactPutsUptoSaid : Prop := fnExactPutsUptoRow.holds Try.pinned (OpenSpec.upto fnExactPutsSpec)

/-- 'laws.FnExactDrops', WHERE WHAT IT READS IS OF BULK AT MOST 1048576: true; the input reads as it did. -/
def fnExactDropsUptoRow : OpenClaim := { program := "yteokiohfebklmaa", sum := "fde55761d41bbab207d8193bfde7be1ba465e8de5a658d61c36af199bd221ff7", func := "loop.example/g00797/laws.FnExactDrops", spec := "fnExactDrops", apart := false, narrowed := true }
def FnExactDropsUptoSaid : Prop := fnExactDropsUptoRow.holds Try.pinned (OpenSpec.upto fnExactDropsSpec)

end Rows
end Go.Proofs.Yteokiohfebklmaa
