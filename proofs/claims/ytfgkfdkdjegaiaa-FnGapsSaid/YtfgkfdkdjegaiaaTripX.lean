/-
  THE LAWS' HELPERS on trips, in the one form that the laws' walks take (szTripS, toTrip, toTripS, eqTrip, eqTripS, markTripS, heldTripS).
-/
import Derived.Test.YtfgkfdkdjegaiaaRows
import Derived.Test.YtfgkfdkdjegaiaaTrip
import Derived.LoopTactic
import Derived.WalkLawsBesides
import Derived.BigQuiet
import Derived.Deep.RegionHeld3
import Derived.Deep.QuietTactic
import Derived.Laws.Entries
namespace Go.Proofs.Ytfgkfdkdjegaiaa
open Go.RowKit
set_option linter.unusedVariables false

def TripsSmall (xs : List TripD) : Prop := xs.length ≤ 1048576
def TripsFit (xs : List TripD) : Prop := ∀ s ∈ xs, TripWf s

/-! a trip by value -/
def TripSmall (_ : TripD) : Prop := True
def TripAt (_ : World) (v : Value) (s : TripD) : Prop := v = .agg #[.int .i64 s.id, .int .i64 s.line, .int .i64 s.start]
theorem TripAt.below {w w' : World} {v : Value} {s : TripD} (h : TripAt w v s) {B : Nat} (_hB : B = w.heap.size) (_hb : Below B w w') : TripAt w' v s := h
def TripIn (_ _ : Nat) (w : World) (v : Value) (s : TripD) : Prop := TripAt w v s
theorem TripIn.at {l u : Nat} {w : World} {v : Value} {s : TripD} (h : TripIn l u w v s) : TripAt w v s := h
theorem TripIn.later {l u : Nat} {w w' : World} {v : Value} {s : TripD} (h : TripIn l u w v s) (_hb : Below w.heap.size w w') : TripIn l u w' v s := h
theorem TripIn.out {l u lo hi : Nat} {w w' : World} {v : Value} {s : TripD} (h : TripIn l u w v s) (_ho : Out lo hi w w') (_hs : True) : TripIn l u w' v s := h
theorem TripIn.base {l l' u u' : Nat} {w : World} {v : Value} {s : TripD} (h : TripIn l u w v s) (_hl : l' ≤ l) (_hu : u ≤ u') : TripIn l' u' w v s := h
theorem Trip_open {w : World} {v : Value} {s : TripD} (h : TripAt w v s) : v = .agg #[.int .i64 s.id, .int .i64 s.line, .int .i64 s.start] := h

theorem keepE6 {W w w' : World} {p0 p1 p2 p3 p4 p5 : Addr} {x0 x1 x2 x3 x4 x5 : Value} (hb : Below w.heap.size w w') (h : w.cell? p0 = some x0 ∧ w.cell? p1 = some x1 ∧ w.cell? p2 = some x2 ∧ w.cell? p3 = some x3 ∧ w.cell? p4 = some x4 ∧ w.cell? p5 = some x5 ∧ Below W.heap.size W w) : w'.cell? p0 = some x0 ∧ w'.cell? p1 = some x1 ∧ w'.cell? p2 = some x2 ∧ w'.cell? p3 = some x3 ∧ w'.cell? p4 = some x4 ∧ w'.cell? p5 = some x5 ∧ Below W.heap.size W w' := by
  obtain ⟨h0, h1, h2, h3, h4, h5, hl⟩ := h
  exact ⟨bkeep hb h0, bkeep hb h1, bkeep hb h2, bkeep hb h3, bkeep hb h4, bkeep hb h5, hl.trans (hb.mono hl.size)⟩
/-- the marks from k on -/
def upTrips (k : Int) : Nat → List TripD
  | 0 => []
  | n + 1 => upTrips k n ++ [⟨k + 3 * (n : Int), k + 3 * (n : Int) + 1, k + 3 * (n : Int) + 1 + 1⟩]
theorem upTrips_len (k : Int) : ∀ n, (upTrips k n).length = n
  | 0 => rfl
  | n + 1 => by simp [upTrips, upTrips_len k n]
theorem upTrips_get (k : Int) : ∀ n j (h : j < (upTrips k n).length), (upTrips k n)[j] = ⟨k + 3 * (j : Int), k + 3 * (j : Int) + 1, k + 3 * (j : Int) + 1 + 1⟩
  | 0, j, h => by simp [upTrips] at h
  | n + 1, j, h => by
    simp only [upTrips]
    rw [List.getElem_append]
    have hl := upTrips_len k n
    split
    · exact upTrips_get k n j (by assumption)
    · have : j = n := by simp [upTrips, hl] at h; omega
      subst this
      simp

/-- trips that hold marks from k on -/
def TripsMk (k : Int) (w : World) (v : Value) (xs : List TripD) : Prop := TripsAt w v (upTrips k xs.length)
theorem TripsMk.later {k : Int} {w w' : World} {v : Value} {xs : List TripD} (h : TripsMk k w v xs) (hb : Below w.heap.size w w') : TripsMk k w' v xs := TripsAt.below h rfl hb

end Go.Proofs.Ytfgkfdkdjegaiaa
