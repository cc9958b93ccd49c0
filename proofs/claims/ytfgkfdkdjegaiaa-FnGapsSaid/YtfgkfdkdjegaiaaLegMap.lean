/-
  A MAP FROM STOPS TO LEGS that the call makes: what each append and store leave; what a look-up gives.
-/
import Derived.Test.YtfgkfdkdjegaiaaHdrMap
import Derived.Test.YtfgkfdkdjegaiaaLegX
import Derived.Test.YtfgkfdkdjegaiaaJrnP
import Derived.Maps.AppendAt
namespace Go.Proofs.Ytfgkfdkdjegaiaa
open Go.RowKit Go.Maps
set_option linter.unusedVariables false

def legsAt (L : List LegD) (s : Int) : List LegD := L.filter (fun l => l.frm = s)
theorem legsAt_snoc (L : List LegD) (l : LegD) (s : Int) : legsAt (L ++ [l]) s = if l.frm = s then legsAt L s ++ [l] else legsAt L s := by
  unfold legsAt
  rw [List.filter_append]
  by_cases h : l.frm = s <;> simp [h]
theorem legsAt_len (L : List LegD) (s : Int) : (legsAt L s).length ≤ L.length := List.length_filter_le _ _
end Go.Proofs.Ytfgkfdkdjegaiaa
