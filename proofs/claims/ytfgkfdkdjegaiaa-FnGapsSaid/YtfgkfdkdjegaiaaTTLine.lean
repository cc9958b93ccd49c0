/-
  CONTRACTS of spec.l5Line, l5Stops, l5At, l5End and of impl.arrivalOf, canRun: a trip's line, its stop times, its arrival.
-/
import Derived.Test.YtfgkfdkdjegaiaaTTX
import Derived.Test.YtfgkfdkdjegaiaaRunBase
import Derived.Test.YtfgkfdkdjegaiaaTimeB
import Derived.Test.YtfgkfdkdjegaiaaNetLine
import Derived.RegionTactic
import Derived.BigRegion
namespace Go.Proofs.Ytfgkfdkdjegaiaa
open Go.RowKit
set_option linter.unusedVariables false

theorem trip_at {w : World} {b : Option Addr} {d : Nat} {xs : List TripD} (h : TripsAt w (.slice b xs.length d) xs) (i : Nat) (hi : i < xs.length) :
    ∃ g off, b = some ⟨g, off, none⟩ ∧ g < w.heap.size ∧ w.cell? ⟨g, off + i * 3, none⟩ = some (.int .i64 xs[i].id) ∧ w.cell? ⟨g, off + i * 3 + 1, none⟩ = some (.int .i64 xs[i].line) ∧ w.cell? ⟨g, off + i * 3 + 2, none⟩ = some (.int .i64 xs[i].start) := by
  obtain ⟨a, c, he, _, _, HC⟩ := trips_open h
  simp at he
  obtain ⟨rfl, rfl⟩ := he
  exact HC.out i hi

theorem runSum_all (l : LineD) : runSum l 0 l.runs.length = l.runs.sum := by simp [runSum]
theorem keepE3 {W w w' : World} {p0 p1 p2 : Addr} {x0 x1 x2 : Value} (hb : Below w.heap.size w w') (h : w.cell? p0 = some x0 ∧ w.cell? p1 = some x1 ∧ w.cell? p2 = some x2 ∧ Below W.heap.size W w) : w'.cell? p0 = some x0 ∧ w'.cell? p1 = some x1 ∧ w'.cell? p2 = some x2 ∧ Below W.heap.size W w' := keepH3 hb h
theorem belE3 {W w : World} {p0 p1 p2 : Addr} {x0 x1 x2 : Value} (h : w.cell? p0 = some x0 ∧ w.cell? p1 = some x1 ∧ w.cell? p2 = some x2 ∧ Below W.heap.size W w) : Below W.heap.size W w := h.2.2.2
end Go.Proofs.Ytfgkfdkdjegaiaa
