/-
  THE LAWS' heldPatternS: what holds marks is told (written by gen_struct.py).
-/
import Derived.Test.YtfgkfdkdjegaiaaPatternX
namespace Go.Proofs.Ytfgkfdkdjegaiaa
open Go.RowKit
set_option linter.unusedVariables false

end Go.Proofs.Ytfgkfdkdjegaiaa
