/-
  What spec.IsValidTimetable and impl.IsValidTimetable both return.
-/
import Derived.Test.YtniankcjgcackaaL5Good
namespace Go.Proofs.Ytniankcjgcackaa
open Go.RowKit

end Go.Proofs.Ytniankcjgcackaa
