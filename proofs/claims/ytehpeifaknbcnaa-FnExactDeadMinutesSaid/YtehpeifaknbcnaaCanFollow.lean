import Derived.Test.YtehpeifaknbcnaaFollC
namespace Go.Proofs.Ytehpeifaknbcnaa
open Go.RowKit
set_option linter.unusedVariables false
set_option linter.unusedSimpArgs false

theorem TTGood.can {t : TTD} (h : TTGood t) (k : Nat) (hk : k < t.trips.length) : CanRun t.net (t.trips[k]'hk) := (h.step k hk).2.2.1
theorem can_of {t : TTD} (h : TTGood t) {id : Int} (hf : foundT t id = true) : CanRun t.net (tripOf t id) := by rw [tripOf_at hf]; exact h.can _ _

theorem findI_yes {t : TTD} {id : Int} (hg : TTGood t) (h : foundT t id = true) : findI id t.trips = (pl t id : Nat) ∧ pl t id < t.trips.length := findI_found hg.asc' h
theorem findI_no {t : TTD} {id : Int} (hg : TTGood t) (h : foundT t id = false) : findI id t.trips = -1 := findI_none hg.asc' h
end Go.Proofs.Ytehpeifaknbcnaa
