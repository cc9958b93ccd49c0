/-
  THE LAWS' heldTripS: trips that hold marks are told.
-/
import Derived.Test.YtfgkfdkdjegaiaaTripX
namespace Go.Proofs.Ytfgkfdkdjegaiaa
open Go.RowKit
set_option linter.unusedVariables false

end Go.Proofs.Ytfgkfdkdjegaiaa
