/-
  What spec.IsValidTimetable and impl.IsValidTimetable both return.
-/
import Derived.Test.YtocbgeneabmnmaaL5Good
namespace Go.Proofs.Ytocbgeneabmnmaa
open Go.RowKit

theorem bothIsValidTimetable (t : TTD) (hf : TTFits t) (hs : TTSmall t) : ∃ (b : Bool), ∀ v w, TTAt w v t →
    Calls Try.prog 20 #[v] w (fun e w' => e = .returned (.bool b) ∧ Below w.heap.size w w') ∧ Calls Try.prog 19 #[v] w (fun e w' => e = .returned (.bool b) ∧ Below w.heap.size w w') :=
  ⟨_, fun v w h => ⟨specTT_any v t w h hf, implTT_any v t w h hf⟩⟩
end Go.Proofs.Ytocbgeneabmnmaa
