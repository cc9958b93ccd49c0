/-
  CONTRACTS of spec.JourneyTimes, impl.journeyEnd, impl.JourneyTimes; both sides.
-/
import Derived.Test.YtfgkfdkdjegaiaaIsValidJourney
namespace Go.Proofs.Ytfgkfdkdjegaiaa
open Go.RowKit Jrn Go.Maps
set_option linter.unusedVariables false
set_option linter.unusedSimpArgs false

/-- the first leg and the last one -/
def firstL (cs : List LegD) : LegD := cs.getD 0 ⟨0, 0, 0, 0, 0⟩
def lastL (cs : List LegD) : LegD := cs.getD (cs.length - 1) ⟨0, 0, 0, 0, 0⟩
def jtV (cs : List LegD) : Int × Int := ((lastL cs).arr - (firstL cs).dep, waitsTo cs (cs.length - 1))
noncomputable def jtF (t : TTD) (ch : Int) (cs : List LegD) : Int × Int := if ansJ t ch cs then jtV cs else (0, 0)
theorem ansJ_iff {t : TTD} {ch : Int} {cs : List LegD} (h : ansJ t ch cs = true) : TTGood t ∧ (0 ≤ ch ∧ ch ≤ 30) ∧ JrnOk (allLegs (rides t)) ch cs := by
  unfold ansJ at h
  split at h
  · rename_i hh
    refine ⟨hh.1, hh.2, ?_⟩
    unfold jrnB at h
    exact @of_decide_eq_true _ (Classical.propDecidable _) h
  · cases h
theorem jrn_bound {t : TTD} (hg : TTGood t) {ch : Int} {cs : List LegD} (h : JrnOk (allLegs (rides t)) ch cs) (k : Nat) (hk : k < cs.length) : 0 ≤ cs[k].dep ∧ cs[k].dep ≤ 2400 ∧ 0 ≤ cs[k].arr ∧ cs[k].arr ≤ 2400 := by
  have := legs_bound hg _ (h.2.2 k hk hk).1
  omega
theorem waits_bound {t : TTD} (hg : TTGood t) {ch : Int} {cs : List LegD} (h : JrnOk (allLegs (rides t)) ch cs) : ∀ k : Nat, -(2400 * (k : Int)) ≤ waitsTo cs k ∧ waitsTo cs k ≤ 2400 * (k : Int)
  | 0 => by simp [waitsTo]
  | k + 1 => by
    have ih := waits_bound hg h k
    rw [waitsTo]
    split
    · rename_i hk
      have h1 := jrn_bound hg h k (by omega)
      have h2 := jrn_bound hg h (k + 1) hk
      omega
    · omega
theorem ridesTo_bound {t : TTD} (hg : TTGood t) {ch : Int} {cs : List LegD} (h : JrnOk (allLegs (rides t)) ch cs) : ∀ k : Nat, -(2400 * (k : Int)) ≤ ridesTo cs k ∧ ridesTo cs k ≤ 2400 * (k : Int)
  | 0 => by simp [ridesTo]
  | k + 1 => by
    have ih := ridesTo_bound hg h k
    rw [ridesTo]
    split
    · rename_i hk
      have h1 := jrn_bound hg h k hk
      omega
    · omega

/-! the program's side -/
end Go.Proofs.Ytfgkfdkdjegaiaa
