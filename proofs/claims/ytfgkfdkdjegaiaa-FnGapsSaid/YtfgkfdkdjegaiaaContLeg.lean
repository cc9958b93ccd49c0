/-
  CONTRACTS: slices.Index and slices.Contains over legs.
-/
import Derived.Test.YtfgkfdkdjegaiaaLegX
import Derived.Test.YtfgkfdkdjegaiaaFst
import Derived.Test.YtfgkfdkdjegaiaaTTLine
import Derived.BigQuiet
import Derived.Deep.QuietTactic
import Derived.Laws.StructEq
namespace Go.Proofs.Ytfgkfdkdjegaiaa
open Go.RowKit
set_option linter.unusedVariables false

def legEqB (x y : LegD) : Bool := x.trip == y.trip && (x.frm == y.frm && (x.dst == y.dst && (x.dep == y.dep && x.arr == y.arr)))
theorem legEqB_iff (x y : LegD) : legEqB x y = true ↔ x = y := by
  cases x; cases y
  simp [legEqB]
end Go.Proofs.Ytfgkfdkdjegaiaa
