/-
  CONTRACTS: cmp.Or of three numbers, impl.compareRides, slices.CompareFunc over legs, impl.compareJourneys: the order of journeys.
-/
import Derived.Test.YtfgkfdkdjegaiaaCmp
import Derived.Test.YtfgkfdkdjegaiaaJrnP
import Derived.Test.YtfgkfdkdjegaiaaLegX
import Derived.Test.YtfgkfdkdjegaiaaJourneyTimes
import Derived.OrdersHeld
import Derived.Deep.RegionHeld
namespace Go.Proofs.Ytfgkfdkdjegaiaa
open Go.RowKit Jrn
set_option linter.unusedVariables false
set_option linter.unusedSimpArgs false

def or3 (x y z : Int) : Int := orI x (orI y z)
/-! plain words: the order as a number -/
def cmpR (x y : LegD) : Int := or3 (cmpI x.trip y.trip) (cmpI x.frm y.frm) (cmpI x.dst y.dst)
theorem cmpI_neg (a b : Int) : cmpI a b < 0 ↔ a < b := by
  unfold cmpI
  by_cases h1 : a < b
  · simp [h1]
  · by_cases h2 : b < a
    · simp [h1, h2]
    · simp [h1, h2]
theorem orI_neg (x y : Int) : orI x y < 0 ↔ x < 0 ∨ (x = 0 ∧ y < 0) := by
  unfold orI
  split
  · omega
  · omega
theorem orI_zero (x y : Int) : orI x y = 0 ↔ x = 0 ∧ y = 0 := by
  unfold orI
  split
  · omega
  · omega
theorem cmpR_neg (x y : LegD) : cmpR x y < 0 ↔ rideLt x y := by
  unfold cmpR or3 rideLt
  rw [orI_neg, orI_neg, cmpI_neg, cmpI_neg, cmpI_neg, cmpI_zero, cmpI_zero]
theorem cmpR_zero (x y : LegD) : cmpR x y = 0 ↔ rideEq x y := by
  unfold cmpR or3 rideEq
  rw [orI_zero, orI_zero, cmpI_zero, cmpI_zero, cmpI_zero]
def lexC : List LegD → List LegD → Int
  | [], [] => 0
  | [], _ :: _ => -1
  | _ :: _, [] => 1
  | x :: a, y :: b => if cmpR x y = 0 then lexC a b else cmpR x y
theorem lexC_neg : ∀ a b : List LegD, lexC a b < 0 ↔ lexLt a b
  | [], [] => by simp [lexC, lexLt]
  | [], _ :: _ => by simp [lexC, lexLt]
  | _ :: _, [] => by simp [lexC, lexLt]
  | x :: a, y :: b => by
    have ih := lexC_neg a b
    show (if cmpR x y = 0 then lexC a b else cmpR x y) < 0 ↔ rideLt x y ∨ (rideEq x y ∧ lexLt a b)
    rw [← cmpR_neg, ← cmpR_zero, ← ih]
    split <;> omega
def cmpJ (a b : List LegD) : Int := or3 (cmpI (lastL a).arr (lastL b).arr) (cmpI a.length b.length) (lexC a b)
theorem lastL_end {a : List LegD} (h : a ≠ []) : (lastL a).arr = endT 0 a := by
  have key : ∀ (a : List LegD) (t : Int), a ≠ [] → (a.getD (a.length - 1) ⟨0, 0, 0, 0, 0⟩).arr = endT t a := by
    intro a
    induction a with
    | nil => intro t h; exact absurd rfl h
    | cons x a ih =>
      intro t _
      cases a with
      | nil => rfl
      | cons y a =>
        have := ih x.arr (by simp)
        simpa [endT] using this
  exact key a 0 h
theorem cmpJ_neg {a b : List LegD} (ha : a ≠ []) (hb : b ≠ []) : cmpJ a b < 0 ↔ JLt a b := by
  unfold cmpJ or3 JLt
  rw [orI_neg, orI_neg, cmpI_neg, cmpI_neg, lexC_neg, cmpI_zero, cmpI_zero, lastL_end ha, lastL_end hb]
  simp only [Int.ofNat_lt, Int.ofNat_inj]

end Go.Proofs.Ytfgkfdkdjegaiaa
