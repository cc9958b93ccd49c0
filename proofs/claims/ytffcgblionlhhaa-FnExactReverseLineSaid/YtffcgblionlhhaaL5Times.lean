/-
  CONTRACT of spec.l5Times: the stop times of a trip, in new memory.
-/
import Derived.Test.YtffcgblionlhhaaTk
import Derived.Laws.IdiomStrings
namespace Go.Proofs.Ytffcgblionlhhaa
open Go.RowKit
set_option linter.unusedVariables false

end Go.Proofs.Ytffcgblionlhhaa
