/-
  No cell of these rows narrows 'for every input' (looked for: loops, veiled, ifaces, maps, wideKeys, modest, calm, conditions, laid).
  DERIVED. THE GIVEN ROWS OF THIS SEAT. 6 by the template 'for every input the law returns true; each argument reads behind the call as it read before'; 0 by the template 'total and deterministic' (their statements: YtglklgnggkenhaaTotals.lean).
  GIVEN WITH THE SEED: the statements are not yours to turn. If you find one false, say at which input.
  Laid BY PROGRAM, IN A SANDBOX (cutbox-rows.mjs): the forced cells as the released guide's own fill.sh prints them over the translation cdf16f7399c8e64b… (all of the seat's roots in one cut). By AI agents, Wed Nov 11 2026. No macro, syntax, notation, axiom, sorry.
-/
import Derived.Test.YtglklgnggkenhaaChecked
import GoSem.Claim
import GoSem.ClaimJoined
import GoSem.ClaimMapViews
import Derived.JoinedTies
import Derived.KernelRfl
namespace Go.Proofs.Ytglklgnggkenhaa
/- THE CELL 'sum', in the pinned program and in every row, IS THE sha256 OF THE DUMP (.gsa) THAT YtglklgnggkenhaaProg.lean LOADS. Nothing in Lean hashes anything: it is a label: what it is worth is what the hold of that sum in a sandbox is worth. -/
noncomputable def Try.pinned : Pinned := { name := "ytglklgnggkenhaa", sum := "cdf16f7399c8e64b632ee66ef0ef8b4c9803be2177d3c13e5a114c1571f2a396", checked := Try.checked }
namespace Rows
def none {H : Type} : Left H := { results := [], args := [] }

/-- 'laws.FnRing': WHATEVER THE INPUT: true; the input reads as it did. -/
def fnRingSpec : ChangeSpec := { name := "fnRing", fn := fun _ => fun
  | [d] => { results := [.lit (.bool true)], args := [d] }
  | _ => none }
def fnRingRow : OpenClaim := { program := "ytglklgnggkenhaa", sum := "cdf16f7399c8e64b632ee66ef0ef8b4c9803be2177d3c13e5a114c1571f2a396", func := "loop.example/g00797/laws.FnRing", spec := "fnRing", inPlace := ["(*internal/sync.Mutex).Lock", "internal/race.Disable", "sync/atomic.CompareAndSwapInt32", "internal/race.Enable", "internal/race.Acquire", "(*internal/sync.Mutex).lockSlow", "internal/sync.runtime_canSpin", "internal/sync.runtime_doSpin", "internal/sync.throw", "internal/sync.runtime_nanotime", "internal/sync.runtime_SemacquireMutex", "sync/atomic.AddInt32", "(*internal/sync.Mutex).Unlock", "internal/race.ReleaseMerge", "(*internal/sync.Mutex).unlockSlow", "internal/sync.fatal", "internal/sync.runtime_Semrelease"], unfollowed := true, recurses := true, apart := false }
def FnRingSaid : Prop := fnRingRow.holds Try.pinned (OpenSpec.ofChange fnRingSpec)

/-- ITS FALSE NEIGHBOUR: 'it returns false'. Refute it at one input. -/
def fnRingWrong : ChangeSpec := { name := "fnRing", fn := fun _ => fun
  | [d] => { results := [.lit (.bool false)], args := [d] }
  | _ => none }
def FnRingWrongFalsely : Prop := fnRingRow.holds Try.pinned (OpenSpec.ofChange fnRingWrong)

/-- 'laws.FnExactRingOk': WHATEVER THE INPUT: true; the input reads as it did. -/
def fnExactRingOkSpec : ChangeSpec := { name := "fnExactRingOk", fn := fun _ => fun
  | [d] => { results := [.lit (.bool true)], args := [d] }
  | _ => none }
def fnExactRingOkRow : OpenClaim := { program := "ytglklgnggkenhaa", sum := "cdf16f7399c8e64b632ee66ef0ef8b4c9803be2177d3c13e5a114c1571f2a396", func := "loop.example/g00797/laws.FnExactRingOk", spec := "fnExactRingOk", unfollowed := true, recurses := true, apart := false }
def FnExactRingOkSaid : Prop := fnExactRingOkRow.holds Try.pinned (OpenSpec.ofChange fnExactRingOkSpec)

/-- ITS FALSE NEIGHBOUR: 'it returns false'. Refute it at one input. -/
def fnExactRingOkWrong : ChangeSpec := { name := "fnExactRingOk", fn := fun _ => fun
  | [d] => { results := [.lit (.bool false)], args := [d] }
  | _ => none }
def FnExactRingOkWrongFalsely : Prop := fnExactRingOkRow.holds Try.pinned (OpenSpec.ofChange fnExactRingOkWrong)

/-- 'laws.FnExactRingNew': WHATEVER THE INPUT: true; the input reads as it did. -/
def fnExactRingNewSpec : ChangeSpec := { name := "fnExactRingNew", fn := fun _ => fun
  | [d1, d2] => { results := [.lit (.bool true)], args := [d1, d2] }
  | _ => none }
def fnExactRingNewRow : OpenClaim := { program := "ytglklgnggkenhaa", sum := "cdf16f7399c8e64b632ee66ef0ef8b4c9803be2177d3c13e5a114c1571f2a396", func := "loop.example/g00797/laws.FnExactRingNew", spec := "fnExactRingNew", unfollowed := true, recurses := true, apart := false }
def FnExactRingNewSaid : Prop := fnExactRingNewRow.holds Try.pinned (OpenSpec.ofChange fnExactRingNewSpec)

/-- ITS FALSE NEIGHBOUR: 'it returns false'. Refute it at one input. -/
def fnExactRingNewWrong : ChangeSpec := { name := "fnExactRingNew", fn := fun _ => fun
  | [d1, d2] => { results := [.lit (.bool false)], args := [d1, d2] }
  | _ => none }
def FnExactRingNewWrongFalsely : Prop := fnExactRingNewRow.holds Try.pinned (OpenSpec.ofChange fnExactRingNewWrong)

/-- 'laws.FnExactRingResync': WHATEVER THE INPUT: true; the input reads as it did. -/
def fnExactRingResyncSpec : ChangeSpec := { name := "fnExactRingResync", fn := fun _ => fun
  | [d1, d2] => { results := [.lit (.bool true)], args := [d1, d2] }
  | _ => none }
def fnExactRingResyncRow : OpenClaim := { program := "ytglklgnggkenhaa", sum := "cdf16f7399c8e64b632ee66ef0ef8b4c9803be2177d3c13e5a114c1571f2a396", func := "loop.example/g00797/laws.FnExactRingResync", spec := "fnExactRingResync", unfollowed := true, recurses := true, apart := false }
def FnExactRingResyncSaid : Prop := fnExactRingResyncRow.holds Try.pinned (OpenSpec.ofChange fnExactRingResyncSpec)

/-- ITS FALSE NEIGHBOUR: 'it returns false'. Refute it at one input. -/
def fnExactRingResyncWrong : ChangeSpec := { name := "fnExactRingResync", fn := fun _ => fun
  | [d1, d2] => { results := [.lit (.bool false)], args := [d1, d2] }
  | _ => none }
def FnExactRingResyncWrongFalsely : Prop := fnExactRingResyncRow.holds Try.pinned (OpenSpec.ofChange fnExactRingResyncWrong)

/-- 'laws.FnExactRingLag': WHATEVER THE INPUT: true; the input reads as it did. -/
def fnExactRingLagSpec : ChangeSpec := { name := "fnExactRingLag", fn := fun _ => fun
  | [d] => { results := [.lit (.bool true)], args := [d] }
  | _ => none }
def fnExactRingLagRow : OpenClaim := { program := "ytglklgnggkenhaa", sum := "cdf16f7399c8e64b632ee66ef0ef8b4c9803be2177d3c13e5a114c1571f2a396", func := "loop.example/g00797/laws.FnExactRingLag", spec := "fnExactRingLag", apart := false }
def FnExactRingLagSaid : Prop := fnExactRingLagRow.holds Try.pinned (OpenSpec.ofChange fnExactRingLagSpec)

/-- ITS FALSE NEIGHBOUR: 'it returns false'. Refute it at one input. -/
def fnExactRingLagWrong : ChangeSpec := { name := "fnExactRingLag", fn := fun _ => fun
  | [d] => { results := [.lit (.bool false)], args := [d] }
  | _ => none }
def FnExactRingLagWrongFalsely : Prop := fnExactRingLagRow.holds Try.pinned (OpenSpec.ofChange fnExactRingLagWrong)

/-- 'laws.FnExactRingSame': WHATEVER THE INPUT: true; the input reads as it did. -/
def fnExactRingSameSpec : ChangeSpec := { name := "fnExactRingSame", fn := fun _ => fun
  | [d1, d2] => { results := [.lit (.bool true)], args := [d1, d2] }
  | _ => none }
def fnExactRingSameRow : OpenClaim := { program := "ytglklgnggkenhaa", sum := "cdf16f7399c8e64b632ee66ef0ef8b4c9803be2177d3c13e5a114c1571f2a396", func := "loop.example/g00797/laws.FnExactRingSame", spec := "fnExactRingSame", unfollowed := true, recurses := true, apart := false }
def FnExactRingSameSaid : Prop := fnExactRingSameRow.holds Try.pinned (OpenSpec.ofChange fnExactRingSameSpec)

/-- ITS FALSE NEIGHBOUR: 'it returns false'. Refute it at one input. -/
def fnExactRingSameWrong : ChangeSpec := { name := "fnExactRingSame", fn := fun _ => fun
  | [d1, d2] => { results := [.lit (.bool false)], args := [d1, d2] }
  | _ => none }
def FnExactRingSameWrongFalsely : Prop := fnExactRingSameRow.holds Try.pinned (OpenSpec.ofChange fnExactRingSameWrong)

/- THE SECOND FORM. 'bulk': how many values and letters a reading holds, each counted each time it is reached (what is shared counts as often as it is met; a slice's spare places count too). A statement '..UptoSaid' is the law's where the arguments, and the package variables that the reading takes, are together of bulk at most 1048576: NARROWER than '..Said'. Prove '..Said' where nothing that the law and all that it calls make is longer than what came in: it says more and counts as full. Else prove '..UptoSaid'. A law counts once. -/
mutual
def uptoBulk {H : Type} : DataW H → Nat
  | .lit (.string bytes) => bytes.length + 1
  | .lit _ => 1
  | .nil => 1
  | .ptr d => uptoBulk d + 1
  | .slice elems spare => uptoBulkAll elems + uptoBulkAll spare + 1
  | .agg parts => uptoBulkAll parts + 1
  | .iface _ d => uptoBulk d + 1
  | .map entries => uptoBulkEntries entries + 1
  | .held _ => 1
def uptoBulkAll {H : Type} : List (DataW H) → Nat
  | [] => 0
  | d :: r => uptoBulk d + uptoBulkAll r
def uptoBulkEntries {H : Type} : List (Lit × DataW H) → Nat
  | [] => 0
  | x :: r => uptoBulkEntry x + uptoBulkEntries r
def uptoBulkEntry {H : Type} : Lit × DataW H → Nat
  | (.string bytes, d) => bytes.length + uptoBulk d + 1
  | (_, d) => uptoBulk d + 1
 end
def uptoSmall : (H : Type) → List (DataW H) → Bool := fun _ ds => decide (uptoBulkAll ds ≤ 1048576)
def OpenSpec.upto (s : _root_.Go.ChangeSpec) : _root_.Go.OpenSpec := { _root_.Go.OpenSpec.ofChange s with cond := some uptoSmall }

/-- 'laws.FnRing', WHERE WHAT IT READS IS OF BULK AT MOST 1048576: true; the input reads as it did. -/
def fnRingUptoRow : OpenClaim := { program := "ytglklgnggkenhaa", sum := "cdf16f7399c8e64b632ee66ef0ef8b4c9803be2177d3c13e5a114c1571f2a396", func := "loop.example/g00797/laws.FnRing", spec := "fnRing", inPlace := ["(*internal/sync.Mutex).Lock", "internal/race.Disable", "sync/atomic.CompareAndSwapInt32", "internal/race.Enable", "internal/race.Acquire", "(*internal/sync.Mutex).lockSlow", "internal/sync.runtime_canSpin", "internal/sync.runtime_doSpin", "internal/sync.throw", "internal/sync.runtime_nanotime", "internal/sync.runtime_SemacquireMutex", "sync/atomic.AddInt32", "(*internal/sync.Mutex).Unlock", "internal/race.ReleaseMerge", "(*internal/sync.Mutex).unlockSlow", "internal/sync.fatal", "internal/sync.runtime_Semrelease"], unfollowed := true, recurses := true, apart := false, narrowed := true }
def FnRingUptoSaid : Prop := fnRingUptoRow.holds Try.pinned (OpenSpec.upto fnRingSpec)

/-- 'laws.FnExactRingOk', WHERE WHAT IT READS IS OF BULK AT MOST 1048576: true; the input reads as it did. -/
def fnExactRingOkUptoRow : OpenClaim := { program := "ytglklgnggkenhaa", sum := "cdf16f7399c8e64b632ee66ef0ef8b4c9803be2177d3c13e5a114c1571f2a396", func := "loop.example/g00797/laws.FnExactRingOk", spec := "fnExactRingOk", unfollowed := true, recurses := true, apart := false, narrowed := true }
def FnExactRingOkUptoSaid : Prop := fnExactRingOkUptoRow.holds Try.pinned (OpenSpec.upto fnExactRingOkSpec)

/-- 'laws.FnExactRingNew', WHERE WHAT IT READS IS OF BULK AT MOST 1048576: true; the input reads as it did. -/
def fnExactRingNewUptoRow : OpenClaim := { program := "ytglklgnggkenhaa", sum := "cdf16f7399c8e64b632ee66ef0ef8b4c9803be2177d3c13e5a114c1571f2a396", func := "loop.example/g00797/laws.FnExactRingNew", spec := "fnExactRingNew", unfollowed := true, recurses := true, apart := false, narrowed := true }
def FnExactRingNewUptoSaid : Prop := fnExactRingNewUptoRow.holds Try.pinned (OpenSpec.upto fnExactRingNewSpec)

/-- 'laws.FnExactRingResync', WHERE WHAT IT READS IS OF BULK AT MOST 1048576: true; the input reads as it did. -/
def fnExactRingResyncUptoRow : OpenClaim := { program := "ytglklgnggkenhaa", sum := "cdf16f7399c8e64b632ee66ef0ef8b4c9803be2177d3c13e5a114c1571f2a396", func := "loop.example/g00797/laws.FnExactRingResync", spec := "fnExactRingResync", unfollowed := true, recurses := true, apart := false, narrowed := true }
def FnExactRingResyncUptoSaid : Prop := fnExactRingResyncUptoRow.holds Try.pinned (OpenSpec.upto fnExactRingResyncSpec)

/-- 'laws.FnExactRingLag', WHERE WHAT IT READS IS OF BULK AT MOST 1048576: true; the input reads as it did. -/
def fnExactRingLagUptoRow : OpenClaim := { program := "ytglklgnggkenhaa", sum := "cdf16f7399c8e64b632ee66ef0ef8b4c9803be2177d3c13e5a114c1571f2a396", func := "loop.example/g00797/laws.FnExactRingLag", spec := "fnExactRingLag", apart := false, narrowed := true }
def FnExactRingLagUptoSaid : Prop := fnExactRingLagUptoRow.holds Try.pinned (OpenSpec.upto fnExactRingLagSpec)

/-- 'laws.FnExactRingSame', WHERE WHAT IT READS IS OF BULK AT MOST 1048576: true; the input reads as it did. -/
def fnExactRingSameUptoRow : OpenClaim := { program := "ytglklgnggkenhaa", sum := "cdf16f7399c8e64b632ee66ef0ef8b4c9803be2177d3c13e5a114c1571f2a396", func := "loop.example/g00797/laws.FnExactRingSame", spec := "fnExactRingSame", unfollowed := true, recurses := true, apart := false, narrowed := true }
def FnExactRingSameUptoSaid : Prop := fnExactRingSameUptoRow.holds Try.pinned (OpenSpec.upto fnExactRingSameSpec)

end Rows
end Go.Proofs.Ytglklgnggkenhaa
