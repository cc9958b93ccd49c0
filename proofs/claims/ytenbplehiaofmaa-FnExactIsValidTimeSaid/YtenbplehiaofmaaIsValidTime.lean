/-
  BOTH SIDES of IsValidTime in one form.
-/
import Derived.Test.YtenbplehiaofmaaTime
namespace Go.Proofs.Ytenbplehiaofmaa
set_option linter.unusedVariables false
open Go.RowKit
theorem bothIsValidTime (a : Int) (w : (Lit.int .i64 a).wf = true) : ∃ r : Bool, ∀ w : World, (Calls Try.prog 23 #[.int .i64 a] w fun e w' => e = .returned (.bool r) ∧ Below w.heap.size w w') ∧
    Calls Try.prog 24 #[.int .i64 a] w fun e w' => e = .returned (.bool r) ∧ Below w.heap.size w w' :=
  ⟨timeB a, fun w => ⟨(specValidTime_any a w).mono fun e w' ⟨he, hw⟩ => ⟨he, by rw [← hw]; exact Below.refl _ _⟩, (implValidTime_any a w).mono fun e w' ⟨he, hw⟩ => ⟨he, by rw [← hw]; exact Below.refl _ _⟩⟩⟩
end Go.Proofs.Ytenbplehiaofmaa
