/-
  THE LAWS' HELPERS on calendars, in the one form that the laws' walks take (szCalendar, toCalendar, eqCalendar).
-/
import Derived.Test.YtniankcjgcackaaMa
import Derived.Test.YtniankcjgcackaaCal
namespace Go.Proofs.Ytniankcjgcackaa
open Go.RowKit
set_option linter.unusedVariables false

end Go.Proofs.Ytniankcjgcackaa
