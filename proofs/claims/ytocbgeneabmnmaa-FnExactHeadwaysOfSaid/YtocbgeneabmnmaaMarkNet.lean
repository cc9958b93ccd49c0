/-
  CONTRACTS of the laws' markStringS, heldStringS, markLineS, markNetwork.
-/
import Derived.Test.YtocbgeneabmnmaaMarkStr
import Derived.Test.YtocbgeneabmnmaaMark
namespace Go.Proofs.Ytocbgeneabmnmaa
open Go.RowKit
set_option linter.unusedVariables false

end Go.Proofs.Ytocbgeneabmnmaa
