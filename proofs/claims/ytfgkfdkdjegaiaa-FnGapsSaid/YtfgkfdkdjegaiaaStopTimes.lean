/-
  What spec.StopTimes and impl.StopTimes both return.
-/
import Derived.Test.YtfgkfdkdjegaiaaTripNumber
import Derived.Test.YtfgkfdkdjegaiaaStopTimesOf
import Derived.Test.YtfgkfdkdjegaiaaL5Times
import Derived.Test.YtfgkfdkdjegaiaaOwnI
namespace Go.Proofs.Ytfgkfdkdjegaiaa
open Go.RowKit
set_option linter.unusedVariables false

/-- the stop times of the trip at a place -/
def stopL (t : TTD) (p : Nat) : List Int := match t.trips[p]? with
  | some x => match t.net.lines[x.line.toNat]? with
    | some l => tk x.start l.runs (l.runs.length + 1)
    | none => []
  | none => []
theorem stopL_at {t : TTD} {p k : Nat} (hp : p < t.trips.length) (hk : (t.trips[p]).line = k) (hkl : k < t.net.lines.length) : stopL t p = tk (t.trips[p]).start t.net.lines[k].runs (t.net.lines[k].runs.length + 1) := by
  unfold stopL; rw [List.getElem?_eq_getElem hp]; simp only [hk, Int.toNat_natCast, List.getElem?_eq_getElem hkl]
noncomputable def stF (t : TTD) (id : Int) : List Int × Bool := if TTGood t ∧ foundB id t.trips = true then (stopL t (placeOf id t.trips), true) else ([], false)
theorem keepE6' {W w w' : World} {p0 p1 p2 p3 p4 p5 : Addr} {x0 x1 x2 x3 x4 x5 : Value} (hb : Below w.heap.size w w') (h : w.cell? p0 = some x0 ∧ w.cell? p1 = some x1 ∧ w.cell? p2 = some x2 ∧ w.cell? p3 = some x3 ∧ w.cell? p4 = some x4 ∧ w.cell? p5 = some x5 ∧ Below W.heap.size W w) : w'.cell? p0 = some x0 ∧ w'.cell? p1 = some x1 ∧ w'.cell? p2 = some x2 ∧ w'.cell? p3 = some x3 ∧ w'.cell? p4 = some x4 ∧ w'.cell? p5 = some x5 ∧ Below W.heap.size W w' := keepE6 hb h
theorem belE6 {W w : World} {p0 p1 p2 p3 p4 p5 : Addr} {x0 x1 x2 x3 x4 x5 : Value} (h : w.cell? p0 = some x0 ∧ w.cell? p1 = some x1 ∧ w.cell? p2 = some x2 ∧ w.cell? p3 = some x3 ∧ w.cell? p4 = some x4 ∧ w.cell? p5 = some x5 ∧ Below W.heap.size W w) : Below W.heap.size W w := h.2.2.2.2.2.2

theorem st_in {w w' : World} {r : List Int} {b : Bool} {e : Ending} (h : StAns w.heap.size r b e w' ∧ Below w.heap.size w w') : ∃ v', e = .returned (.tuple #[v', .bool b]) ∧ IntsIn w.heap.size w'.heap.size w' v' r ∧ Below w.heap.size w w' := by
  obtain ⟨⟨v', he, ho⟩, hb⟩ := h
  exact ⟨v', he, IntsIn.mk ho, hb⟩
theorem stF_small (t : TTD) (id : Int) (hs : TTSmall t) : IntsSmall (stF t id).1 := by
  unfold stF
  split
  · rename_i h
    obtain ⟨hg, hfd⟩ := h
    obtain ⟨-, hpl⟩ := findI_found hg.Asc hfd
    obtain ⟨k, hk, hkl, -⟩ := hg.line _ hpl
    have := (line_facts hg.1 k hkl).2.1
    simp only [stopL_at hpl hk hkl, IntsSmall, tk_len]
    omega
  · simp [IntsSmall]
end Go.Proofs.Ytfgkfdkdjegaiaa
