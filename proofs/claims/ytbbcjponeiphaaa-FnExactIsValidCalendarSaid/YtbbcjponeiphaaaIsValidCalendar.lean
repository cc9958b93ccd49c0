/-
  What spec.IsValidCalendar and impl.IsValidCalendar both return at a calendar.
-/
import Derived.Test.YtbbcjponeiphaaaCalValid
import Derived.Test.YtbbcjponeiphaaaCalX
namespace Go.Proofs.Ytbbcjponeiphaaa
open Go.RowKit
set_option linter.unusedVariables false

theorem bothIsValidCalendar (c : CalD) (hf : CalFits c) (hs : CalSmall c) : ∃ b : Bool, ∀ (v : Value) (w : World), CalAt w v c →
    Calls Try.prog 19 #[v] w (fun e w' => e = .returned (.bool b) ∧ Below w.heap.size w w') ∧ Calls Try.prog 21 #[v] w (fun e w' => e = .returned (.bool b) ∧ Below w.heap.size w w') :=
  ⟨calB c, fun v w h => ⟨specValidCal_any v c w h, implValidCal_any v c w h⟩⟩
end Go.Proofs.Ytbbcjponeiphaaa
