/-
  What spec.IsValidNetwork and impl.IsValidNetwork both return at a network; and what an argument that is a network reads as.
-/
import Derived.Test.YtmcpafflnccfaaaMb
namespace Go.Proofs.Ytmcpafflnccfaaa
open Go.RowKit
set_option linter.unusedVariables false

end Go.Proofs.Ytmcpafflnccfaaa
