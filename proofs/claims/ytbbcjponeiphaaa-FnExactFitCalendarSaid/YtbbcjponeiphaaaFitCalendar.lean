/-
  spec.FitCalendar and impl.FitCalendar return the same.
-/
import Derived.Test.YtbbcjponeiphaaaFitSpec
import Derived.Test.YtbbcjponeiphaaaRowInts
namespace Go.Proofs.Ytbbcjponeiphaaa
open Go.RowKit
set_option linter.unusedVariables false

theorem fitAns_small (lo hi : Int) (days : List Int) : CalSmall (fitAns lo hi days) := by
  by_cases h : FitGood lo hi days
  · rw [(fitAns_yes h).1]
    have h1 := fitTo_len lo hi days (fitN lo hi)
    have h2 := h.1.1
    have h3 := h.1.2.1
    have h4 : fitN lo hi ≤ 201 := by unfold fitN; omega
    unfold CalSmall fitC
    omega
  · rw [(fitAns_no h).1]; simp [CalSmall, calZ]

theorem bothFitCalendar (lo : Int) (w0 : (Lit.int .i64 lo).wf = true) (hi : Int) (w1 : (Lit.int .i64 hi).wf = true) (days : List Int) (hf : ∀ z ∈ days, (Lit.int .i64 z).wf = true) (hs : IntsSmall days) : ∃ (res : CalD) (q : Bool), CalSmall res ∧ ∀ (v : Value) (w : World), RowAt w v (ints days) →
    Calls Try.prog 38 #[.int .i64 lo, .int .i64 hi, v] w (fun e w' => ∃ z, e = .returned (.tuple #[z, .bool q]) ∧ CalIn w.heap.size w'.heap.size w' z res ∧ Below w.heap.size w w') ∧ Calls Try.prog 40 #[.int .i64 lo, .int .i64 hi, v] w (fun e w' => ∃ z, e = .returned (.tuple #[z, .bool q]) ∧ CalIn w.heap.size w'.heap.size w' z res ∧ Below w.heap.size w w') :=
  ⟨fitAns lo hi days, fitB lo hi days, fitAns_small lo hi days, fun v w h => ⟨specFit_any v lo hi days w h w0 w1, implFit_any v lo hi days w h w0 w1 hs⟩⟩
end Go.Proofs.Ytbbcjponeiphaaa
