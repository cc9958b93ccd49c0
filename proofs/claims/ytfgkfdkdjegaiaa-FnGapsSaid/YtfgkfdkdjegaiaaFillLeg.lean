/-
  CONTRACTS of spec.FillLeg and impl.FillLeg; both sides.
-/
import Derived.Test.YtfgkfdkdjegaiaaFillS
import Derived.Test.YtfgkfdkdjegaiaaLegsBy
import Derived.Test.YtfgkfdkdjegaiaaL5Good
import Derived.Test.YtfgkfdkdjegaiaaIn
import Derived.Test.YtfgkfdkdjegaiaaIsValidTimetable
import Derived.Test.YtfgkfdkdjegaiaaTTLine
namespace Go.Proofs.Ytfgkfdkdjegaiaa
open Go.RowKit Jrn Go.Maps
set_option linter.unusedVariables false
set_option linter.unusedSimpArgs false

noncomputable def fillA (t : TTD) (trip frm dst : Int) : Option LegD := if TTGood t then fillF (allLegs (rides t)) trip frm dst else none
theorem fillA_out {t : TTD} (hg : TTGood t) {trip frm dst : Int} (h : ¬ (0 ≤ frm ∧ frm ≤ (t.net.stops.length : Int) - 1) ∨ ¬ (0 ≤ dst ∧ dst ≤ (t.net.stops.length : Int) - 1)) : fillA t trip frm dst = none := by
  unfold fillA
  rw [if_pos hg]
  cases hf : fillF (allLegs (rides t)) trip frm dst with
  | none => rfl
  | some l =>
    exfalso
    obtain ⟨h1, h2, h3, h4⟩ := fillF_some hf
    have := legs_bound hg l h1
    omega

theorem find_at {α : Type} {p : α → Bool} {xs : List α} {k : Nat} (hk : k < xs.length) (hp : p xs[k] = true) (hno : ∀ j (hj : j < xs.length), j < k → p xs[j] = false) : xs.find? p = some xs[k] := by
  rw [List.find?_eq_some_iff_getElem]
  exact ⟨hp, k, hk, rfl, fun j hj => by simp [hno j (by omega) hj]⟩
theorem find_end {α : Type} {p : α → Bool} {xs : List α} (hno : ∀ j (hj : j < xs.length), p xs[j] = false) : xs.find? p = none := by
  rw [List.find?_eq_none]
  intro x hx
  obtain ⟨j, hj, rfl⟩ := List.getElem_of_mem hx
  simp [hno j hj]

end Go.Proofs.Ytfgkfdkdjegaiaa
