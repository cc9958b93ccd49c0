/-
  CONTRACTS of the laws' marks: markText, markIntS, heldIntS, markStringS, markLineS, markNetwork: a mark writes into the rows of what it marks and into nothing else.
-/
import Derived.Test.YtfgkfdkdjegaiaaNetBase
import Derived.Test.YtfgkfdkdjegaiaaStr
import Derived.Laws.Strings
namespace Go.Proofs.Ytfgkfdkdjegaiaa
open Go.RowKit
set_option linter.unusedVariables false

/-! marks of numbers -/
end Go.Proofs.Ytfgkfdkdjegaiaa
