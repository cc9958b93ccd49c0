/-
  What spec.IsValidNetwork and impl.IsValidNetwork both return at a network; and what an argument that is a network reads as.
-/
import Derived.Test.YtfgkfdkdjegaiaaNetBase
namespace Go.Proofs.Ytfgkfdkdjegaiaa
open Go.RowKit
set_option linter.unusedVariables false

end Go.Proofs.Ytfgkfdkdjegaiaa
