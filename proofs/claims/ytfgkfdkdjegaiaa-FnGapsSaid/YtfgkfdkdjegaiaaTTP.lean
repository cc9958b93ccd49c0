/-
  PLAIN WORDS of chapter 5, of no program: trips, timetables as lists; when a timetable is valid; the place of an Id.
-/
import Derived.Test.YtfgkfdkdjegaiaaNetP
import Derived.Test.YtfgkfdkdjegaiaaSpanP
import Derived.Test.YtfgkfdkdjegaiaaTrip
namespace Go.Proofs.Ytfgkfdkdjegaiaa
set_option linter.unusedVariables false

structure TTD where
  net : NetD
  trips : List TripD

/-- the minutes of a trip's whole line -/
def allRun (n : NetD) (x : TripD) : Int := ((n.lines[x.line.toNat]?).map (fun l => l.runs.sum)).getD 0
theorem allRun_at {n : NetD} {x : TripD} {i : Nat} (hx : x.line = i) (h : i < n.lines.length) : allRun n x = (n.lines[i]'h).runs.sum := by
  unfold allRun; rw [hx]; simp [h]
def arrF (n : NetD) (x : TripD) : Int := x.start + allRun n x
def CanRun (n : NetD) (x : TripD) : Prop := (0 ≤ x.line ∧ x.line < n.lines.length) ∧ TimeOk x.start ∧ TimeOk (arrF n x)
def TripStep (t : TTD) (k : Nat) (h : k < t.trips.length) : Prop :=
  1 ≤ t.trips[k].id ∧ t.trips[k].id ≤ 999 ∧ CanRun t.net t.trips[k] ∧ ∀ j (hj : j + 1 = k), (t.trips[j]'(by omega)).id < t.trips[k].id
def TripsTo (t : TTD) (k : Nat) : Prop := ∀ j (h : j < t.trips.length), j < k → TripStep t j h
def TTGood (t : TTD) : Prop := NetGood t.net ∧ t.trips.length ≤ 12 ∧ TripsTo t t.trips.length
noncomputable instance (t : TTD) : Decidable (TTGood t) := Classical.propDecidable _
noncomputable def ttB (t : TTD) : Bool := decide (TTGood t)
theorem ttB_yes {t : TTD} (h : TTGood t) : ttB t = true := decide_eq_true h
theorem ttB_no {t : TTD} (h : ¬ TTGood t) : ttB t = false := decide_eq_false h
theorem tripsTo_succ {t : TTD} {k : Nat} (hk : k < t.trips.length) (h : TripsTo t k) (h1 : TripStep t k hk) : TripsTo t (k + 1) := by
  intro j hj hjk
  by_cases e : j = k
  · subst e; exact h1
  · exact h j hj (by omega)
/-- the Id ahead of a place, 0 ahead of the first -/
def lastId (t : TTD) : Nat → Int
  | 0 => 0
  | k + 1 => ((t.trips[k]?).map (fun x => x.id)).getD 0
theorem lastId_succ {t : TTD} {k : Nat} (h : k < t.trips.length) : lastId t (k + 1) = (t.trips[k]'h).id := by simp [lastId, h]
theorem step_of {t : TTD} {k : Nat} (hk : k < t.trips.length) (h : TripsTo t k) (h1 : lastId t k < (t.trips[k]'hk).id) (h2 : (t.trips[k]'hk).id ≤ 999) (h3 : CanRun t.net (t.trips[k]'hk)) : TripStep t k hk := by
  cases k with
  | zero => exact ⟨by simp only [lastId] at h1; omega, h2, h3, fun j hj => by omega⟩
  | succ j =>
    rw [lastId_succ (by omega)] at h1
    have := (h j (by omega) (by omega)).1
    refine ⟨by omega, h2, h3, fun i hi => ?_⟩
    obtain rfl : i = j := by omega
    exact h1
theorem step_last {t : TTD} {k : Nat} (hk : k < t.trips.length) (h : TripStep t k hk) : lastId t k < (t.trips[k]'hk).id := by
  cases k with
  | zero => have := h.1; simp only [lastId]; omega
  | succ j => rw [lastId_succ (by omega)]; exact h.2.2.2 j rfl
theorem ids_lt {t : TTD} (h : TripsTo t t.trips.length) : ∀ (d i : Nat) (h2 : i + d + 1 < t.trips.length), (t.trips[i]'(by omega)).id < (t.trips[i + d + 1]'h2).id
  | 0, i, h2 => (h (i + 1) h2 h2).2.2.2 i rfl
  | d + 1, i, h2 => by
    have h3 := ids_lt h d i (by omega)
    have h4 := (h (i + d + 1 + 1) (by omega) (by omega)).2.2.2 (i + d + 1) rfl
    have e : i + (d + 1) + 1 = i + d + 1 + 1 := by omega
    simp only [e]
    omega
theorem TTGood.asc {t : TTD} (h : TTGood t) (i j : Nat) (hij : i < j) (hj : j < t.trips.length) : (t.trips[i]'(by omega)).id < (t.trips[j]'hj).id := by
  have := ids_lt h.2.2 (j - i - 1) i (by omega)
  have e : i + (j - i - 1) + 1 = j := by omega
  simp only [e] at this
  exact this
theorem TTGood.step {t : TTD} (h : TTGood t) (k : Nat) (hk : k < t.trips.length) : TripStep t k hk := h.2.2 k hk hk
theorem TTGood.line {t : TTD} (h : TTGood t) (k : Nat) (hk : k < t.trips.length) : ∃ i : Nat, (t.trips[k]'hk).line = i ∧ ∃ hi : i < t.net.lines.length, arrF t.net (t.trips[k]'hk) = (t.trips[k]'hk).start + (t.net.lines[i]'hi).runs.sum := by
  have hs := (h.step k hk).2.2.1.1
  obtain ⟨i, hi⟩ := Int.eq_ofNat_of_zero_le hs.1
  have hlt : i < t.net.lines.length := by omega
  exact ⟨i, hi, hlt, by unfold arrF; rw [allRun_at hi hlt]⟩
/-- the place of an Id, or -1 -/
def idIdx (t : TTD) (id : Int) : Int := fstIdx id (t.trips.map (fun x => x.id))
end Go.Proofs.Ytfgkfdkdjegaiaa
