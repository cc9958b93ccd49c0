import Derived.Test.YtehpeifaknbcnaaRows
import Derived.WalkKit
import Derived.ProofKit
import Derived.Deep.DeepHandedRow
namespace Go.Proofs.Ytehpeifaknbcnaa.closed
open Go.ChangeShapes Go.WideShapes Go.ChangeAt Go.RowKit

theorem laidOut : laidOutB Try.pinned.checked.prog = true := by kernel_rfl
theorem rowed : mapsRowed Try.pinned.checked.prog = true := by kernel_rfl
theorem enters : Try.pinned.checked.prog.mayEnter = true := by kernel_rfl
theorem lifts : Try.pinned.checked.prog.liftsFinal = Rows.fnExactIsValidFleetRow.lifted := by kernel_rfl
theorem made : Try.pinned.checked.prog.make = some Rows.fnExactIsValidFleetRow.make := by kernel_rfl
theorem heard : Try.pinned.checked.prog.stopsHeard = true := by kernel_rfl
theorem keys : Try.pinned.checked.prog.plainKeys = Rows.fnExactIsValidFleetRow.plainKeys := by kernel_rfl
end Go.Proofs.Ytehpeifaknbcnaa.closed
