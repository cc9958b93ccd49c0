/-
  CONTRACT of impl.ServedStops.
-/
import Derived.Test.YtfgkfdkdjegaiaaServedP
import Derived.Test.YtfgkfdkdjegaiaaL8Arr
namespace Go.Proofs.Ytfgkfdkdjegaiaa
open Go.RowKit Go.Maps Jrn
set_option linter.unusedVariables false
set_option linter.unusedSimpArgs false

end Go.Proofs.Ytfgkfdkdjegaiaa
