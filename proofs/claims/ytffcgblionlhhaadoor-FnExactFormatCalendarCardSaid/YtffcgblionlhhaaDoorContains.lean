/-
  CONTRACTS: slices.Index and slices.Contains over numbers; nothing changes.
-/
import Derived.Test.YtffcgblionlhhaaDoorRows
import Derived.Test.YtffcgblionlhhaaDoorMa
import Derived.LoopTactic
import Derived.WalkLawsBesides
namespace Go.Proofs.YtffcgblionlhhaaDoor
open Go.RowKit
set_option linter.unusedVariables false

end Go.Proofs.YtffcgblionlhhaaDoor
