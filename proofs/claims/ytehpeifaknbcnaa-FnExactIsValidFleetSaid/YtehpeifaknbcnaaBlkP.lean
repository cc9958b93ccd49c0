import Derived.Test.YtehpeifaknbcnaaTTP
import Derived.Test.YtehpeifaknbcnaaFleet
import Derived.Test.YtehpeifaknbcnaaNetX
import Derived.Test.YtehpeifaknbcnaaRows
import Derived.Test.YtehpeifaknbcnaaTrip
import Derived.LoopTactic
import Derived.WalkLawsBesides
import Derived.BigQuiet
import Derived.Deep.RegionHeld3
import Derived.Deep.QuietTactic
import Derived.Laws.Entries
import Derived.Test.YtehpeifaknbcnaaNetBase
import Derived.Test.YtehpeifaknbcnaaIn
import Derived.Test.YtehpeifaknbcnaaSpanP
import Derived.Test.YtehpeifaknbcnaaSlices
import Derived.RegionTactic
import Derived.BigRegion
namespace Go.Proofs.Ytehpeifaknbcnaa
set_option linter.unusedVariables false

def DeadRow (m : Nat) (row : List Int) (i : Nat) : Prop := row.length = m ∧ row.getD i 0 = 0 ∧ ∀ d ∈ row, 0 ≤ d ∧ d ≤ 120
def FleetTo (n : NetD) (f : FleetD) (k : Nat) : Prop := ∀ i (h : i < f.dead.length), i < k → DeadRow n.stops.length f.dead[i] i
def FleetGood (n : NetD) (f : FleetD) : Prop := NetGood n ∧ (0 ≤ f.turn ∧ f.turn ≤ 30) ∧ f.dead.length = n.stops.length ∧ FleetTo n f f.dead.length
noncomputable instance (n : NetD) (f : FleetD) : Decidable (FleetGood n f) := Classical.propDecidable _
noncomputable def fleetB (n : NetD) (f : FleetD) : Bool := decide (FleetGood n f)
theorem fleetB_yes {n : NetD} {f : FleetD} (h : FleetGood n f) : fleetB n f = true := decide_eq_true h
theorem fleetB_no {n : NetD} {f : FleetD} (h : ¬ FleetGood n f) : fleetB n f = false := decide_eq_false h
theorem fleetTo_succ {n : NetD} {f : FleetD} {k : Nat} (hk : k < f.dead.length) (h : FleetTo n f k) (h1 : DeadRow n.stops.length f.dead[k] k) : FleetTo n f (k + 1) := by
  intro j hj hjk
  by_cases e : j = k
  · subst e; exact h1
  · exact h j hj (by omega)

end Go.Proofs.Ytehpeifaknbcnaa
