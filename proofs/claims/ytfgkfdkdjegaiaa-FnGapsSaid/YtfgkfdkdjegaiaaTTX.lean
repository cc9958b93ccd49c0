/-
  THE LAWS' HELPERS on timetables, in the one form that the laws' walks take (szTimetable, toTimetable, eqTimetable, markTimetable, heldTimetable).
-/
import Derived.Test.YtfgkfdkdjegaiaaTT
import Derived.Test.YtfgkfdkdjegaiaaTripHeld
namespace Go.Proofs.Ytfgkfdkdjegaiaa
open Go.RowKit
set_option linter.unusedVariables false

/-- a timetable that holds marks from k on -/
def TTMk (k : Int) (w : World) (v : Value) (t : TTD) : Prop := ∃ s l tr, v = .agg #[s, l, tr] ∧ NetMk k w (.agg #[s, l]) t.net ∧ TripsMk (k + netTot t.net) w tr t.trips
theorem TTMk.later {k : Int} {w w' : World} {v : Value} {t : TTD} (h : TTMk k w v t) (hb : Below w.heap.size w w') : TTMk k w' v t := by
  obtain ⟨s, l, tr, hv, h1, h2⟩ := h
  exact ⟨s, l, tr, hv, h1.later hb, h2.later hb⟩

end Go.Proofs.Ytfgkfdkdjegaiaa
