/-
  What spec.IsValidTimetable and impl.IsValidTimetable both return.
-/
import Derived.Test.YtmcpafflnccfaaaL5Good
namespace Go.Proofs.Ytmcpafflnccfaaa
open Go.RowKit

end Go.Proofs.Ytmcpafflnccfaaa
