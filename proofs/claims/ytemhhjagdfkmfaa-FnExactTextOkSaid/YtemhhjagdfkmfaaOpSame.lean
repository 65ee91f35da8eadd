
/-
  The contract of spec.OpSame: two lists of parts are equal.
-/
import Derived.Test.YtemhhjagdfkmfaaSpecOp
namespace Go.Proofs.Ytemhhjagdfkmfaa.low
open Go.RowKit
set_option linter.unusedVariables false

theorem drewN_below (w : World) (n : Nat) : Below w.heap.size w (w.drewN n) := ⟨rfl, rfl, rfl, Nat.le_refl _, fun _ _ => rfl⟩

end Go.Proofs.Ytemhhjagdfkmfaa.low
