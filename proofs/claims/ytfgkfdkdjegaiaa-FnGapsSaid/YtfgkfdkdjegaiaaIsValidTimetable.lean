/-
  What spec.IsValidTimetable and impl.IsValidTimetable both return.
-/
import Derived.Test.YtfgkfdkdjegaiaaL5Good
namespace Go.Proofs.Ytfgkfdkdjegaiaa
open Go.RowKit

end Go.Proofs.Ytfgkfdkdjegaiaa
