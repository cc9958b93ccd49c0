/-
  spec.ExceptDay and impl.ExceptDay return the same.
-/
import Derived.Test.YtbbcjponeiphaaaExcDaySpec
namespace Go.Proofs.Ytbbcjponeiphaaa
open Go.RowKit
set_option linter.unusedVariables false

theorem bothExceptDay (c : CalD) (hf : CalFits c) (hs : CalSmall c) (d : Int) (w1 : (Lit.int .i64 d).wf = true) (r : Bool) : ∃ (res : CalD) (q : Bool), CalSmall res ∧ ∀ (v : Value) (w : World), CalAt w v c →
    Calls Try.prog 29 #[v, .int .i64 d, .bool r] w (fun e w' => ∃ z, e = .returned (.tuple #[z, .bool q]) ∧ CalIn w.heap.size w'.heap.size w' z res ∧ Below w.heap.size w w') ∧ Calls Try.prog 30 #[v, .int .i64 d, .bool r] w (fun e w' => ∃ z, e = .returned (.tuple #[z, .bool q]) ∧ CalIn w.heap.size w'.heap.size w' z res ∧ Below w.heap.size w w') :=
  ⟨excAns c d r, excB c d r, excAns_small c d r, fun v w h => ⟨specExc_any v c d r w h hs, implExc_any v c d r w h hs⟩⟩
end Go.Proofs.Ytbbcjponeiphaaa
