/-
  What spec.TripNumber and impl.TripNumber both return.
-/
import Derived.Test.YtfgkfdkdjegaiaaL5Good
import Derived.Test.YtfgkfdkdjegaiaaTripFind
namespace Go.Proofs.Ytfgkfdkdjegaiaa
open Go.RowKit
set_option linter.unusedVariables false

theorem TTGood.Asc {t : TTD} (h : TTGood t) : Asc t.trips := fun i j hij hj => h.asc i j hij hj
/-- the trip's place and whether there is one -/
noncomputable def numF (t : TTD) (id : Int) : Int × Bool := if TTGood t ∧ foundB id t.trips = true then ((placeOf id t.trips : Int), true) else (0, false)

end Go.Proofs.Ytfgkfdkdjegaiaa
