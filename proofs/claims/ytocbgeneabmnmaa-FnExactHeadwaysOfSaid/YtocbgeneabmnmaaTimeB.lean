/-
  CONTRACTS: spec.l4Time and impl.IsValidTime tell whether a number is a time; nothing changes.
-/
import Derived.Test.YtocbgeneabmnmaaIn
import Derived.Test.YtocbgeneabmnmaaSpanP
import Derived.Test.YtocbgeneabmnmaaSlices
namespace Go.Proofs.Ytocbgeneabmnmaa
open Go.RowKit
set_option linter.unusedVariables false

theorem l4Time_any (t : Int) (w : World) : Calls Try.prog 77 #[.int .i64 t] w fun e w' => e = .returned (.bool (timeB t)) ∧ w = w' := by
  by_cases h : TimeOk t
  · have H := Lib.hid (l1In_yes t 0 1799 w h)
    rw [timeB_yes h]
    go_enter Try.func77, Try.ntmps77
    go_wp2_with (go_at_call 69; refine H.out.mono ?_; rintro e w' ⟨rfl, rfl⟩)
    go_ret
    exact ⟨rfl, rfl⟩
  · have H := Lib.hid (l1In_no t 0 1799 w h)
    rw [timeB_no h]
    go_enter Try.func77, Try.ntmps77
    go_wp2_with (go_at_call 69; refine H.out.mono ?_; rintro e w' ⟨rfl, rfl⟩)
    go_ret
    exact ⟨rfl, rfl⟩
theorem implValidTime_any (t : Int) (w : World) : Calls Try.prog 72 #[.int .i64 t] w fun e w' => e = .returned (.bool (timeB t)) ∧ w = w' := by
  by_cases h0 : 0 ≤ t
  · by_cases h1 : t ≤ 1799
    · rw [timeB_yes ⟨h0, h1⟩]
      go_enter Try.func72, Try.ntmps72
      go_wp2
      go_ret
      exact ⟨rfl, rfl⟩
    · rw [timeB_no fun h => h1 h.2]
      go_enter Try.func72, Try.ntmps72
      go_wp2
      go_ret
      exact ⟨rfl, rfl⟩
  · rw [timeB_no fun h => h0 h.1]
    go_enter Try.func72, Try.ntmps72
    go_wp2
    go_ret
    exact ⟨rfl, rfl⟩
end Go.Proofs.Ytocbgeneabmnmaa
