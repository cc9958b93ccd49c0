/-
  The first stop times of a trip, as a list.
-/
import Derived.Test.YtfgkfdkdjegaiaaTTGood
namespace Go.Proofs.Ytfgkfdkdjegaiaa
open Go.RowKit
set_option linter.unusedVariables false

/-- the first k stop times -/
def tk (s : Int) (rs : List Int) (k : Nat) : List Int := (List.range k).map (fun p => s + (rs.take p).sum)
theorem tk_len (s : Int) (rs : List Int) (k : Nat) : (tk s rs k).length = k := by simp [tk]
theorem tk_succ (s : Int) (rs : List Int) (k : Nat) : tk s rs (k + 1) = tk s rs k ++ [s + (rs.take k).sum] := by simp [tk, List.range_succ]
theorem tk_get (s : Int) (rs : List Int) (k p : Nat) (h : p < k) : (tk s rs k)[p]? = some (s + (rs.take p).sum) := by simp [tk, h]
theorem runSum_zero (l : LineD) (p : Nat) : runSum l 0 p = (l.runs.take p).sum := by simp [runSum]

end Go.Proofs.Ytfgkfdkdjegaiaa
