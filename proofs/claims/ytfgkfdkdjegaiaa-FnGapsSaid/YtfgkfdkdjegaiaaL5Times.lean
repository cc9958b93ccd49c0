/-
  CONTRACT of spec.l5Times: the stop times of a trip, in new memory.
-/
import Derived.Test.YtfgkfdkdjegaiaaTk
import Derived.Laws.IdiomStrings
namespace Go.Proofs.Ytfgkfdkdjegaiaa
open Go.RowKit
set_option linter.unusedVariables false

end Go.Proofs.Ytfgkfdkdjegaiaa
