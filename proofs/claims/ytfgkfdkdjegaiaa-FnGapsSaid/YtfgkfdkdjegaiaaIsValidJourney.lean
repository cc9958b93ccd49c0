/-
  CONTRACTS of spec.l8Asked, spec.IsValidJourney, impl.isChange, impl.canChange, impl.IsValidJourney; both sides.
-/
import Derived.Test.YtfgkfdkdjegaiaaJourneyS
import Derived.Test.YtfgkfdkdjegaiaaImplGood
namespace Go.Proofs.Ytfgkfdkdjegaiaa
open Go.RowKit Jrn Go.Maps
set_option linter.unusedVariables false
set_option linter.unusedSimpArgs false

noncomputable def ansJ (t : TTD) (ch : Int) (cs : List LegD) : Bool := if TTGood t ∧ 0 ≤ ch ∧ ch ≤ 30 then jrnB (allLegs (rides t)) ch cs else false
theorem ansJ_yes {t : TTD} {ch : Int} {cs : List LegD} (hg : TTGood t) (h : 0 ≤ ch ∧ ch ≤ 30) : ansJ t ch cs = jrnB (allLegs (rides t)) ch cs := if_pos ⟨hg, h⟩
theorem ansJ_no {t : TTD} {ch : Int} {cs : List LegD} (h : ¬ (TTGood t ∧ 0 ≤ ch ∧ ch ≤ 30)) : ansJ t ch cs = false := if_neg h
noncomputable def askB (t : TTD) (ch : Int) : Bool := @decide (TTGood t ∧ 0 ≤ ch ∧ ch ≤ 30) (Classical.propDecidable _)
theorem askB_yes {t : TTD} {ch : Int} (h : TTGood t ∧ 0 ≤ ch ∧ ch ≤ 30) : askB t ch = true := by unfold askB; exact @decide_eq_true _ (Classical.propDecidable _) h
theorem askB_no {t : TTD} {ch : Int} (h : ¬ (TTGood t ∧ 0 ≤ ch ∧ ch ≤ 30)) : askB t ch = false := by unfold askB; exact @decide_eq_false _ (Classical.propDecidable _) h

/-! the program's side -/
theorem IntSet.later' {b : Nat} {S : List Int} {w w' : World} (h : IntSet b S w) (hb : Below w.heap.size w w') : IntSet b S w' := SetOf.block h (hb.block b (SetOf.lt h))
theorem IntSet.lt {b : Nat} {S : List Int} {w : World} (h : IntSet b S w) : b < w.heap.size := SetOf.lt h
end Go.Proofs.Ytfgkfdkdjegaiaa
