/-
  impl.boarding as a map's key.
-/
import Derived.Test.YtfgkfdkdjegaiaaHdrMap
import Derived.Test.YtfgkfdkdjegaiaaRows
import Derived.DeepKeys4
namespace Go.Proofs.Ytfgkfdkdjegaiaa
open Go.RowKit Go.Maps
set_option linter.unusedVariables false

def bV (s t n : Int) : Value := .agg #[.int .i64 s, .int .i64 t, .int .i64 n]
theorem cellsI : Try.prog.cellsOf 3 = 1 := by kernel_rfl
end Go.Proofs.Ytfgkfdkdjegaiaa
