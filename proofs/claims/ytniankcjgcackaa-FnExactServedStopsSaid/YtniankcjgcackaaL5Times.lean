/-
  CONTRACT of spec.l5Times: the stop times of a trip, in new memory.
-/
import Derived.Test.YtniankcjgcackaaTk
import Derived.Laws.IdiomStrings
namespace Go.Proofs.Ytniankcjgcackaa
open Go.RowKit
set_option linter.unusedVariables false

end Go.Proofs.Ytniankcjgcackaa
