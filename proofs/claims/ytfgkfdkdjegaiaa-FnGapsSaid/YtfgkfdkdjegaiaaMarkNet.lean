/-
  CONTRACTS of the laws' markStringS, heldStringS, markLineS, markNetwork.
-/
import Derived.Test.YtfgkfdkdjegaiaaMarkStr
import Derived.Test.YtfgkfdkdjegaiaaMark
namespace Go.Proofs.Ytfgkfdkdjegaiaa
open Go.RowKit
set_option linter.unusedVariables false

end Go.Proofs.Ytfgkfdkdjegaiaa
