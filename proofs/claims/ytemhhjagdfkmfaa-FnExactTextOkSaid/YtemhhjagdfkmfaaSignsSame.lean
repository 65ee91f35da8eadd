
/-
  Contracts of spec.SignsSame, of the library's slices.Equal at []int and of impl.SignsSame: two lists of numbers are equal.
-/
import Derived.Test.YtemhhjagdfkmfaaSignsOk
namespace Go.Proofs.Ytemhhjagdfkmfaa.low
open Go.RowKit
set_option linter.unusedVariables false

end Go.Proofs.Ytemhhjagdfkmfaa.low
