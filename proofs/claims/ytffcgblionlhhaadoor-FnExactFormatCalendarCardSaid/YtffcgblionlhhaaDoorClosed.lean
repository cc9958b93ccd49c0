/-
  CLOSED FACTS of the dump that do not hang on a law: its table of types, its head.
-/
import Derived.Test.YtffcgblionlhhaaDoorRows
import Derived.WalkKit
import Derived.ProofKit
import Derived.Deep.DeepHandedRow
namespace Go.Proofs.YtffcgblionlhhaaDoor.closed
open Go.ChangeShapes Go.WideShapes Go.ChangeAt Go.RowKit

theorem laidOut : laidOutB Tryd.pinned.checked.prog = true := by kernel_rfl
theorem rowed : mapsRowed Tryd.pinned.checked.prog = true := by kernel_rfl
theorem enters : Tryd.pinned.checked.prog.mayEnter = true := by kernel_rfl
theorem lifts : Tryd.pinned.checked.prog.liftsFinal = Rows.fnExactFormatNetworkRow.lifted := by kernel_rfl
theorem made : Tryd.pinned.checked.prog.make = some Rows.fnExactFormatNetworkRow.make := by kernel_rfl
theorem heard : Tryd.pinned.checked.prog.stopsHeard = true := by kernel_rfl
theorem keys : Tryd.pinned.checked.prog.plainKeys = Rows.fnExactFormatNetworkRow.plainKeys := by kernel_rfl
end Go.Proofs.YtffcgblionlhhaaDoor.closed
