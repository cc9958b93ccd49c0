/-
  CONTRACTS of spec.l8Asked, spec.l8Journey and spec.IsValidJourney.
-/
import Derived.Test.YtfgkfdkdjegaiaaFillLeg
import Derived.Test.YtfgkfdkdjegaiaaContLeg
namespace Go.Proofs.Ytfgkfdkdjegaiaa
open Go.RowKit Jrn
set_option linter.unusedVariables false
set_option linter.unusedSimpArgs false

theorem jrn_no {L : List LegD} {ch : Int} {c : List LegD} {k : Nat} (hk : k < c.length) (h : ¬ StepOk L ch c k hk) : jrnB L ch c = false := jrnB_no fun hj => h (hj.2.2 k hk hk)
theorem jrn_len {L : List LegD} {ch : Int} {c : List LegD} (h : ¬ (1 ≤ c.length ∧ c.length ≤ 4)) : jrnB L ch c = false := jrnB_no fun hj => h ⟨hj.1, hj.2.1⟩

end Go.Proofs.Ytfgkfdkdjegaiaa
