/-
  What spec.StopNumber and impl.StopNumber both return.
-/
import Derived.Test.YtfgkfdkdjegaiaaIsValidNetwork
import Derived.Test.YtfgkfdkdjegaiaaContains
namespace Go.Proofs.Ytfgkfdkdjegaiaa
open Go.RowKit
set_option linter.unusedVariables false

theorem foundAt_yes (r : Int) (w : World) (h : 0 ≤ r) : Calls Try.prog 104 #[.int .i64 r] w fun e w' => e = .returned (.tuple #[.int .i64 r, .bool true]) ∧ w = w' := by
  go_enter Try.func104, Try.ntmps104
  go_wp2
  go_ret2
  exact ⟨rfl, rfl⟩
theorem foundAt_no (r : Int) (w : World) (h : r < 0) : Calls Try.prog 104 #[.int .i64 r] w fun e w' => e = .returned (.tuple #[.int .i64 0, .bool false]) ∧ w = w' := by
  go_enter Try.func104, Try.ntmps104
  go_wp2
  go_ret2
  exact ⟨rfl, rfl⟩

/-- a place that may be none, as the functions return it -/
def FoundR (ok : Prop) (r : Int) (e : Ending) : Prop := (ok ∧ 0 ≤ r ∧ e = .returned (.tuple #[.int .i64 r, .bool true])) ∨ (¬ (ok ∧ 0 ≤ r) ∧ e = .returned (.tuple #[.int .i64 0, .bool false]))
theorem FoundR.both {P : Program} {f f' : FuncId} {A : Type} {args : A → Array Value} {R : A → World → Prop} {ok : Prop} {r : Int} (h : ∀ v w, R v w → Calls P f (args v) w fun e w' => FoundR ok r e ∧ Below w.heap.size w w') (h' : ∀ v w, R v w → Calls P f' (args v) w fun e w' => FoundR ok r e ∧ Below w.heap.size w w') :
    ∃ (q : Int) (b : Bool), ∀ v w, R v w → Calls P f (args v) w (fun e w' => e = .returned (.tuple #[.int .i64 q, .bool b]) ∧ Below w.heap.size w w') ∧ Calls P f' (args v) w (fun e w' => e = .returned (.tuple #[.int .i64 q, .bool b]) ∧ Below w.heap.size w w') := by
  by_cases hok : ok ∧ 0 ≤ r
  · refine ⟨r, true, fun v w g => ⟨(h v w g).mono fun e w' ⟨he, hw⟩ => ⟨?_, hw⟩, (h' v w g).mono fun e w' ⟨he, hw⟩ => ⟨?_, hw⟩⟩⟩
    all_goals
      rcases he with ⟨_, _, he⟩ | ⟨hn, _⟩
      · exact he
      · exact absurd hok hn
  · refine ⟨0, false, fun v w g => ⟨(h v w g).mono fun e w' ⟨he, hw⟩ => ⟨?_, hw⟩, (h' v w g).mono fun e w' ⟨he, hw⟩ => ⟨?_, hw⟩⟩⟩
    all_goals
      rcases he with ⟨h1, h2, _⟩ | ⟨_, he⟩
      · exact absurd ⟨h1, h2⟩ hok
      · exact he

end Go.Proofs.Ytfgkfdkdjegaiaa
