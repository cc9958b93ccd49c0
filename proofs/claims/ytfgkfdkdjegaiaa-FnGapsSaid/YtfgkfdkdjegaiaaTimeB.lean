/-
  CONTRACTS: spec.l4Time and impl.IsValidTime tell whether a number is a time; nothing changes.
-/
import Derived.Test.YtfgkfdkdjegaiaaIn
import Derived.Test.YtfgkfdkdjegaiaaSpanP
import Derived.Test.YtfgkfdkdjegaiaaSlices
namespace Go.Proofs.Ytfgkfdkdjegaiaa
open Go.RowKit
set_option linter.unusedVariables false

end Go.Proofs.Ytfgkfdkdjegaiaa
