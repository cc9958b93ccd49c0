/-
  CONTRACTS of impl.canRun and impl.IsValidTimetable: whether a timetable is valid.
-/
import Derived.Test.YtfgkfdkdjegaiaaTTLine
namespace Go.Proofs.Ytfgkfdkdjegaiaa
open Go.RowKit
set_option linter.unusedVariables false

noncomputable def canB (n : NetD) (x : TripD) : Bool := @decide (CanRun n x) (Classical.propDecidable _)
theorem canB_yes {n : NetD} {x : TripD} (h : CanRun n x) : canB n x = true := @decide_eq_true _ (Classical.propDecidable _) h
theorem canB_no {n : NetD} {x : TripD} (h : ¬ CanRun n x) : canB n x = false := @decide_eq_false _ (Classical.propDecidable _) h
theorem line_facts {n : NetD} (hg : NetGood n) (k : Nat) (hk : k < n.lines.length) : n.lines[k].runs.length + 1 = n.lines[k].stops.length ∧ n.lines[k].runs.length ≤ 6 ∧ ∀ r ∈ n.lines[k].runs, 1 ≤ r ∧ r ≤ 60 := by
  have h := (good_line hg k hk).2
  exact ⟨h.1.2.2, by have := h.1.2.1; have := h.1.2.2; omega, h.2.2.2⟩

end Go.Proofs.Ytfgkfdkdjegaiaa
