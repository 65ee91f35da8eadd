
/-
  Contracts of impl.partSame, of the library's slices.EqualFunc at parts with impl.partSame, and of impl.OpSame.
-/
import Derived.Test.YtemhhjagdfkmfaaOpSame
import Derived.Test.YtemhhjagdfkmfaaImplOp
namespace Go.Proofs.Ytemhhjagdfkmfaa.low
open Go.RowKit
set_option linter.unusedVariables false

end Go.Proofs.Ytemhhjagdfkmfaa.low
