/-
  No cell of these rows narrows 'for every input' (looked for: loops, veiled, ifaces, maps, wideKeys, modest, calm, conditions, laid).
  DERIVED. THE GIVEN ROWS OF THIS SEAT. 11 by the template 'for every input the law returns true; each argument reads behind the call as it read before'; 0 by the template 'total and deterministic' (their statements: YtocbgeneabmnmaaTotals.lean).
  GIVEN WITH THE SEED: the statements are not yours to turn. If you find one false, say at which input.
  Laid BY PROGRAM, IN A SANDBOX (cutbox-rows.mjs): the forced cells as the released guide's own fill.sh prints them over the translation 178463065aa97a5c… (all of the seat's roots in one cut). By AI agents, Wed Nov 11 2026. No macro, syntax, notation, axiom, sorry.
-/
import Derived.Test.YtocbgeneabmnmaaChecked
import GoSem.Claim
import GoSem.ClaimJoined
import GoSem.ClaimMapViews
import Derived.JoinedTies
import Derived.KernelRfl
namespace Go.Proofs.Ytocbgeneabmnmaa
/- THE CELL 'sum', in the pinned program and in every row, IS THE sha256 OF THE DUMP (.gsa) THAT YtocbgeneabmnmaaProg.lean LOADS. Nothing in Lean hashes anything: it is a label: what it is worth is what the hold of that sum in a sandbox is worth. -/
noncomputable def Try.pinned : Pinned := { name := "ytocbgeneabmnmaa", sum := "178463065aa97a5cd87e43688d89b8dc3988da6a665e91d058854204e4350c52", checked := Try.checked }
namespace Rows
def none {H : Type} : Left H := { results := [], args := [] }

/-- 'laws.FnTrips': WHATEVER THE INPUT: true; the input reads as it did. -/
def fnTripsSpec : ChangeSpec := { name := "fnTrips", fn := fun _ => fun
  | [d] => { results := [.lit (.bool true)], args := [d] }
  | _ => none }
def fnTripsRow : OpenClaim := { program := "ytocbgeneabmnmaa", sum := "178463065aa97a5cd87e43688d89b8dc3988da6a665e91d058854204e4350c52", func := "loop.example/g00900/laws.FnTrips", spec := "fnTrips", inPlace := ["slices.overlaps[loop.example/g00900/impl.Trip]"], unfollowed := true, recurses := true, apart := false }
def FnTripsSaid : Prop := fnTripsRow.holds Try.pinned (OpenSpec.ofChange fnTripsSpec)

/-- ITS FALSE NEIGHBOUR: 'it returns false'. Refute it at one input. -/
def fnTripsWrong : ChangeSpec := { name := "fnTrips", fn := fun _ => fun
  | [d] => { results := [.lit (.bool false)], args := [d] }
  | _ => none }
def FnTripsWrongFalsely : Prop := fnTripsRow.holds Try.pinned (OpenSpec.ofChange fnTripsWrong)

/-- 'laws.FnDepartures': WHATEVER THE INPUT: true; the input reads as it did. -/
def fnDeparturesSpec : ChangeSpec := { name := "fnDepartures", fn := fun _ => fun
  | [d] => { results := [.lit (.bool true)], args := [d] }
  | _ => none }
def fnDeparturesRow : OpenClaim := { program := "ytocbgeneabmnmaa", sum := "178463065aa97a5cd87e43688d89b8dc3988da6a665e91d058854204e4350c52", func := "loop.example/g00900/laws.FnDepartures", spec := "fnDepartures", unfollowed := true, recurses := true, apart := false }
def FnDeparturesSaid : Prop := fnDeparturesRow.holds Try.pinned (OpenSpec.ofChange fnDeparturesSpec)

/-- ITS FALSE NEIGHBOUR: 'it returns false'. Refute it at one input. -/
def fnDeparturesWrong : ChangeSpec := { name := "fnDepartures", fn := fun _ => fun
  | [d] => { results := [.lit (.bool false)], args := [d] }
  | _ => none }
def FnDeparturesWrongFalsely : Prop := fnDeparturesRow.holds Try.pinned (OpenSpec.ofChange fnDeparturesWrong)

/-- 'laws.FnExactIsValidTimetable': WHATEVER THE INPUT: true; the input reads as it did. -/
def fnExactIsValidTimetableSpec : ChangeSpec := { name := "fnExactIsValidTimetable", fn := fun _ => fun
  | [d] => { results := [.lit (.bool true)], args := [d] }
  | _ => none }
def fnExactIsValidTimetableRow : OpenClaim := { program := "ytocbgeneabmnmaa", sum := "178463065aa97a5cd87e43688d89b8dc3988da6a665e91d058854204e4350c52", func := "loop.example/g00900/laws.FnExactIsValidTimetable", spec := "fnExactIsValidTimetable", apart := false }
def FnExactIsValidTimetableSaid : Prop := fnExactIsValidTimetableRow.holds Try.pinned (OpenSpec.ofChange fnExactIsValidTimetableSpec)

/-- ITS FALSE NEIGHBOUR: 'it returns false'. Refute it at one input. -/
def fnExactIsValidTimetableWrong : ChangeSpec := { name := "fnExactIsValidTimetable", fn := fun _ => fun
  | [d] => { results := [.lit (.bool false)], args := [d] }
  | _ => none }
def FnExactIsValidTimetableWrongFalsely : Prop := fnExactIsValidTimetableRow.holds Try.pinned (OpenSpec.ofChange fnExactIsValidTimetableWrong)

/-- 'laws.FnExactTripNumber': WHATEVER THE INPUT: true; the input reads as it did. -/
def fnExactTripNumberSpec : ChangeSpec := { name := "fnExactTripNumber", fn := fun _ => fun
  | [d1, d2] => { results := [.lit (.bool true)], args := [d1, d2] }
  | _ => none }
def fnExactTripNumberRow : OpenClaim := { program := "ytocbgeneabmnmaa", sum := "178463065aa97a5cd87e43688d89b8dc3988da6a665e91d058854204e4350c52", func := "loop.example/g00900/laws.FnExactTripNumber", spec := "fnExactTripNumber", unfollowed := true, recurses := true, apart := false }
def FnExactTripNumberSaid : Prop := fnExactTripNumberRow.holds Try.pinned (OpenSpec.ofChange fnExactTripNumberSpec)

/-- ITS FALSE NEIGHBOUR: 'it returns false'. Refute it at one input. -/
def fnExactTripNumberWrong : ChangeSpec := { name := "fnExactTripNumber", fn := fun _ => fun
  | [d1, d2] => { results := [.lit (.bool false)], args := [d1, d2] }
  | _ => none }
def FnExactTripNumberWrongFalsely : Prop := fnExactTripNumberRow.holds Try.pinned (OpenSpec.ofChange fnExactTripNumberWrong)

/-- 'laws.FnExactStopTimes': WHATEVER THE INPUT: true; the input reads as it did. -/
def fnExactStopTimesSpec : ChangeSpec := { name := "fnExactStopTimes", fn := fun _ => fun
  | [d1, d2] => { results := [.lit (.bool true)], args := [d1, d2] }
  | _ => none }
def fnExactStopTimesRow : OpenClaim := { program := "ytocbgeneabmnmaa", sum := "178463065aa97a5cd87e43688d89b8dc3988da6a665e91d058854204e4350c52", func := "loop.example/g00900/laws.FnExactStopTimes", spec := "fnExactStopTimes", unfollowed := true, recurses := true, apart := false }
def FnExactStopTimesSaid : Prop := fnExactStopTimesRow.holds Try.pinned (OpenSpec.ofChange fnExactStopTimesSpec)

/-- ITS FALSE NEIGHBOUR: 'it returns false'. Refute it at one input. -/
def fnExactStopTimesWrong : ChangeSpec := { name := "fnExactStopTimes", fn := fun _ => fun
  | [d1, d2] => { results := [.lit (.bool false)], args := [d1, d2] }
  | _ => none }
def FnExactStopTimesWrongFalsely : Prop := fnExactStopTimesRow.holds Try.pinned (OpenSpec.ofChange fnExactStopTimesWrong)

/-- 'laws.FnExactAddTrip': WHATEVER THE INPUT: true; the input reads as it did. -/
def fnExactAddTripSpec : ChangeSpec := { name := "fnExactAddTrip", fn := fun _ => fun
  | [d1, d2] => { results := [.lit (.bool true)], args := [d1, d2] }
  | _ => none }
def fnExactAddTripRow : OpenClaim := { program := "ytocbgeneabmnmaa", sum := "178463065aa97a5cd87e43688d89b8dc3988da6a665e91d058854204e4350c52", func := "loop.example/g00900/laws.FnExactAddTrip", spec := "fnExactAddTrip", inPlace := ["slices.overlaps[loop.example/g00900/impl.Trip]"], unfollowed := true, recurses := true, apart := false }
def FnExactAddTripSaid : Prop := fnExactAddTripRow.holds Try.pinned (OpenSpec.ofChange fnExactAddTripSpec)

/-- ITS FALSE NEIGHBOUR: 'it returns false'. Refute it at one input. -/
def fnExactAddTripWrong : ChangeSpec := { name := "fnExactAddTrip", fn := fun _ => fun
  | [d1, d2] => { results := [.lit (.bool false)], args := [d1, d2] }
  | _ => none }
def FnExactAddTripWrongFalsely : Prop := fnExactAddTripRow.holds Try.pinned (OpenSpec.ofChange fnExactAddTripWrong)

/-- 'laws.FnExactRemoveTrip': WHATEVER THE INPUT: true; the input reads as it did. -/
def fnExactRemoveTripSpec : ChangeSpec := { name := "fnExactRemoveTrip", fn := fun _ => fun
  | [d1, d2] => { results := [.lit (.bool true)], args := [d1, d2] }
  | _ => none }
def fnExactRemoveTripRow : OpenClaim := { program := "ytocbgeneabmnmaa", sum := "178463065aa97a5cd87e43688d89b8dc3988da6a665e91d058854204e4350c52", func := "loop.example/g00900/laws.FnExactRemoveTrip", spec := "fnExactRemoveTrip", unfollowed := true, recurses := true, apart := false }
def FnExactRemoveTripSaid : Prop := fnExactRemoveTripRow.holds Try.pinned (OpenSpec.ofChange fnExactRemoveTripSpec)

/-- ITS FALSE NEIGHBOUR: 'it returns false'. Refute it at one input. -/
def fnExactRemoveTripWrong : ChangeSpec := { name := "fnExactRemoveTrip", fn := fun _ => fun
  | [d1, d2] => { results := [.lit (.bool false)], args := [d1, d2] }
  | _ => none }
def FnExactRemoveTripWrongFalsely : Prop := fnExactRemoveTripRow.holds Try.pinned (OpenSpec.ofChange fnExactRemoveTripWrong)

/-- 'laws.FnExactDeparturesAt': WHATEVER THE INPUT: true; the input reads as it did. -/
def fnExactDeparturesAtSpec : ChangeSpec := { name := "fnExactDeparturesAt", fn := fun _ => fun
  | [d1, d2, d3] => { results := [.lit (.bool true)], args := [d1, d2, d3] }
  | _ => none }
def fnExactDeparturesAtRow : OpenClaim := { program := "ytocbgeneabmnmaa", sum := "178463065aa97a5cd87e43688d89b8dc3988da6a665e91d058854204e4350c52", func := "loop.example/g00900/laws.FnExactDeparturesAt", spec := "fnExactDeparturesAt", unfollowed := true, recurses := true, apart := false }
def FnExactDeparturesAtSaid : Prop := fnExactDeparturesAtRow.holds Try.pinned (OpenSpec.ofChange fnExactDeparturesAtSpec)

/-- ITS FALSE NEIGHBOUR: 'it returns false'. Refute it at one input. -/
def fnExactDeparturesAtWrong : ChangeSpec := { name := "fnExactDeparturesAt", fn := fun _ => fun
  | [d1, d2, d3] => { results := [.lit (.bool false)], args := [d1, d2, d3] }
  | _ => none }
def FnExactDeparturesAtWrongFalsely : Prop := fnExactDeparturesAtRow.holds Try.pinned (OpenSpec.ofChange fnExactDeparturesAtWrong)

/-- 'laws.FnExactHeadwaysOf': WHATEVER THE INPUT: true; the input reads as it did. -/
def fnExactHeadwaysOfSpec : ChangeSpec := { name := "fnExactHeadwaysOf", fn := fun _ => fun
  | [d1, d2] => { results := [.lit (.bool true)], args := [d1, d2] }
  | _ => none }
def fnExactHeadwaysOfRow : OpenClaim := { program := "ytocbgeneabmnmaa", sum := "178463065aa97a5cd87e43688d89b8dc3988da6a665e91d058854204e4350c52", func := "loop.example/g00900/laws.FnExactHeadwaysOf", spec := "fnExactHeadwaysOf", recurses := true, apart := false }
def FnExactHeadwaysOfSaid : Prop := fnExactHeadwaysOfRow.holds Try.pinned (OpenSpec.ofChange fnExactHeadwaysOfSpec)

/-- ITS FALSE NEIGHBOUR: 'it returns false'. Refute it at one input. -/
def fnExactHeadwaysOfWrong : ChangeSpec := { name := "fnExactHeadwaysOf", fn := fun _ => fun
  | [d1, d2] => { results := [.lit (.bool false)], args := [d1, d2] }
  | _ => none }
def FnExactHeadwaysOfWrongFalsely : Prop := fnExactHeadwaysOfRow.holds Try.pinned (OpenSpec.ofChange fnExactHeadwaysOfWrong)

/-- 'laws.FnExactTripsRunning': WHATEVER THE INPUT: true; the input reads as it did. -/
def fnExactTripsRunningSpec : ChangeSpec := { name := "fnExactTripsRunning", fn := fun _ => fun
  | [d1, d2] => { results := [.lit (.bool true)], args := [d1, d2] }
  | _ => none }
def fnExactTripsRunningRow : OpenClaim := { program := "ytocbgeneabmnmaa", sum := "178463065aa97a5cd87e43688d89b8dc3988da6a665e91d058854204e4350c52", func := "loop.example/g00900/laws.FnExactTripsRunning", spec := "fnExactTripsRunning", apart := false }
def FnExactTripsRunningSaid : Prop := fnExactTripsRunningRow.holds Try.pinned (OpenSpec.ofChange fnExactTripsRunningSpec)

/-- ITS FALSE NEIGHBOUR: 'it returns false'. Refute it at one input. -/
def fnExactTripsRunningWrong : ChangeSpec := { name := "fnExactTripsRunning", fn := fun _ => fun
  | [d1, d2] => { results := [.lit (.bool false)], args := [d1, d2] }
  | _ => none }
def FnExactTripsRunningWrongFalsely : Prop := fnExactTripsRunningRow.holds Try.pinned (OpenSpec.ofChange fnExactTripsRunningWrong)

/-- 'laws.FnExactShiftTrip': WHATEVER THE INPUT: true; the input reads as it did. -/
def fnExactShiftTripSpec : ChangeSpec := { name := "fnExactShiftTrip", fn := fun _ => fun
  | [d1, d2, d3] => { results := [.lit (.bool true)], args := [d1, d2, d3] }
  | _ => none }
def fnExactShiftTripRow : OpenClaim := { program := "ytocbgeneabmnmaa", sum := "178463065aa97a5cd87e43688d89b8dc3988da6a665e91d058854204e4350c52", func := "loop.example/g00900/laws.FnExactShiftTrip", spec := "fnExactShiftTrip", unfollowed := true, recurses := true, apart := false }
def FnExactShiftTripSaid : Prop := fnExactShiftTripRow.holds Try.pinned (OpenSpec.ofChange fnExactShiftTripSpec)

/-- ITS FALSE NEIGHBOUR: 'it returns false'. Refute it at one input. -/
def fnExactShiftTripWrong : ChangeSpec := { name := "fnExactShiftTrip", fn := fun _ => fun
  | [d1, d2, d3] => { results := [.lit (.bool false)], args := [d1, d2, d3] }
  | _ => none }
def FnExactShiftTripWrongFalsely : Prop := fnExactShiftTripRow.holds Try.pinned (OpenSpec.ofChange fnExactShiftTripWrong)

/- THE SECOND FORM. 'bulk': how many values and letters a reading holds, each counted each time it is reached (what is shared counts as often as it is met; a slice's spare places count too). A statement '..UptoSaid' is the law's where the arguments, and the package variables that the reading takes, are together of bulk at most 1048576: NARROWER than '..Said'. Prove '..Said' where nothing that the law and all that it calls make is longer than what came in: it says more and counts as full. Else prove '..UptoSaid'. A law counts once. -/
mutual
def uptoBulk {H : Type} : DataW H → Nat
  | .lit (.string bytes) => bytes.length + 1
  | .lit _ => 1
  | .nil => 1
  | .ptr d => uptoBulk d + 1
  | .slice elems spare => uptoBulkAll elems + uptoBulkAll spare + 1
  | .agg parts => uptoBulkAll parts + 1
  | .iface _ d => uptoBulk d + 1
  | .map entries => uptoBulkEntries entries + 1
  | .held _ => 1
def uptoBulkAll {H : Type} : List (DataW H) → Nat
  | [] => 0
  | d :: r => uptoBulk d + uptoBulkAll r
def uptoBulkEntries {H : Type} : List (Lit × DataW H) → Nat
  | [] => 0
  | x :: r => uptoBulkEntry x + uptoBulkEntries r
def uptoBulkEntry {H : Type} : Lit × DataW H → Nat
  | (.string bytes, d) => bytes.length + uptoBulk d + 1
  | (_, d) => uptoBulk d + 1
 end
def uptoSmall : (H : Type) → List (DataW H) → Bool := fun _ ds => decide (uptoBulkAll ds ≤ 1048576)
def OpenSpec.upto (s : _root_.Go.ChangeSpec) : _root_.Go.OpenSpec := { _root_.Go.OpenSpec.ofChange s with cond := some uptoSmall }

/-- 'laws.FnTrips', WHERE WHAT IT READS IS OF BULK AT MOST 1048576: true; the input reads as it did. -/
def fnTripsUptoRow : OpenClaim := { program := "ytocbgeneabmnmaa", sum := "178463065aa97a5cd87e43688d89b8dc3988da6a665e91d058854204e4350c52", func := "loop.example/g00900/laws.FnTrips", spec := "fnTrips", inPlace := ["slices.overlaps[loop.example/g00900/impl.Trip]"], unfollowed := true, recurses := true, apart := false, narrowed := true }
def FnTripsUptoSaid : Prop := fnTripsUptoRow.holds Try.pinned (OpenSpec.upto fnTripsSpec)

/-- 'laws.FnDepartures', WHERE WHAT IT READS IS OF BULK AT MOST 1048576: true; the input reads as it did. -/
def fnDeparturesUptoRow : OpenClaim := { program := "ytocbgeneabmnmaa", sum := "178463065aa97a5cd87e43688d89b8dc3988da6a665e91d058854204e4350c52", func := "loop.example/g00900/laws.FnDepartures", spec := "fnDepartures", unfollowed := true, recurses := true, apart := false, narrowed := true }
def FnDeparturesUptoSaid : Prop := fnDeparturesUptoRow.holds Try.pinned (OpenSpec.upto fnDeparturesSpec)

/-- 'laws.FnExactIsValidTimetable', WHERE WHAT IT READS IS OF BULK AT MOST 1048576: true; the input reads as it did. -/
def fnExactIsValidTimetableUptoRow : OpenClaim := { program := "ytocbgeneabmnmaa", sum := "178463065aa97a5cd87e43688d89b8dc3988da6a665e91d058854204e4350c52", func := "loop.example/g00900/laws.FnExactIsValidTimetable", spec := "fnExactIsValidTimetable", apart := false, narrowed := true }
def FnExactIsValidTimetableUptoSaid : Prop := fnExactIsValidTimetableUptoRow.holds Try.pinned (OpenSpec.upto fnExactIsValidTimetableSpec)

/-- 'laws.FnExactTripNumber', WHERE WHAT IT READS IS OF BULK AT MOST 1048576: true; the input reads as it did. -/
def fnExactTripNumberUptoRow : OpenClaim := { program := "ytocbgeneabmnmaa", sum := "178463065aa97a5cd87e43688d89b8dc3988da6a665e91d058854204e4350c52", func := "loop.example/g00900/laws.FnExactTripNumber", spec := "fnExactTripNumber", unfollowed := true, recurses := true, apart := false, narrowed := true }
def FnExactTripNumberUptoSaid : Prop := fnExactTripNumberUptoRow.holds Try.pinned (OpenSpec.upto fnExactTripNumberSpec)

/-- 'laws.FnExactStopTimes', WHERE WHAT IT READS IS OF BULK AT MOST 1048576: true; the input reads as it did. -/
def fnExactStopTimesUptoRow : OpenClaim := { program := "ytocbgeneabmnmaa", sum := "178463065aa97a5cd87e43688d89b8dc3988da6a665e91d058854204e4350c52", func := "loop.example/g00900/laws.FnExactStopTimes", spec := "fnExactStopTimes", unfollowed := true, recurses := true, apart := false, narrowed := true }
def FnExactStopTimesUptoSaid : Prop := fnExactStopTimesUptoRow.holds Try.pinned (OpenSpec.upto fnExactStopTimesSpec)

/-- 'laws.FnExactAddTrip', WHERE WHAT IT READS IS OF BULK AT MOST 1048576: true; the input reads as it did. -/
def fnExactAddTripUptoRow : OpenClaim := { program := "ytocbgeneabmnmaa", sum := "178463065aa97a5cd87e43688d89b8dc3988da6a665e91d058854204e4350c52", func := "loop.example/g00900/laws.FnExactAddTrip", spec := "fnExactAddTrip", inPlace := ["slices.overlaps[loop.example/g00900/impl.Trip]"], unfollowed := true, recurses := true, apart := false, narrowed := true }
def FnExactAddTripUptoSaid : Prop := fnExactAddTripUptoRow.holds Try.pinned (OpenSpec.upto fnExactAddTripSpec)

/-- 'laws.FnExactRemoveTrip', WHERE WHAT IT READS IS OF BULK AT MOST 1048576: true; the input reads as it did. -/
def fnExactRemoveTripUptoRow : OpenClaim := { program := "ytocbgeneabmnmaa", sum := "178463065aa97a5cd87e43688d89b8dc3988da6a665e91d058854204e4350c52", func := "loop.example/g00900/laws.FnExactRemoveTrip", spec := "fnExactRemoveTrip", unfollowed := true, recurses := true, apart := false, narrowed := true }
def FnExactRemoveTripUptoSaid : Prop := fnExactRemoveTripUptoRow.holds Try.pinned (OpenSpec.upto fnExactRemoveTripSpec)

/-- 'laws.FnExactDeparturesAt', WHERE WHAT IT READS IS OF BULK AT MOST 1048576: true; the input reads as it did. -/
def fnExactDeparturesAtUptoRow : OpenClaim := { program := "ytocbgeneabmnmaa", sum := "178463065aa97a5cd87e43688d89b8dc3988da6a665e91d058854204e4350c52", func := "loop.example/g00900/laws.FnExactDeparturesAt", spec := "fnExactDeparturesAt", unfollowed := true, recurses := true, apart := false, narrowed := true }
def FnExactDeparturesAtUptoSaid : Prop := fnExactDeparturesAtUptoRow.holds Try.pinned (OpenSpec.upto fnExactDeparturesAtSpec)

/-- 'laws.FnExactHeadwaysOf', WHERE WHAT IT READS IS OF BULK AT MOST 1048576: true; the input reads as it did. -/
def fnExactHeadwaysOfUptoRow : OpenClaim := { program := "ytocbgeneabmnmaa", sum := "178463065aa97a5cd87e43688d89b8dc3988da6a665e91d058854204e4350c52", func := "loop.example/g00900/laws.FnExactHeadwaysOf", spec := "fnExactHeadwaysOf", recurses := true, apart := false, narrowed := true }
def FnExactHeadwaysOfUptoSaid : Prop := fnExactHeadwaysOfUptoRow.holds Try.pinned (OpenSpec.upto fnExactHeadwaysOfSpec)

/-- 'laws.FnExactTripsRunning', WHERE WHAT IT READS IS OF BULK AT MOST 1048576: true; the input reads as it did. -/
def fnExactTripsRunningUptoRow : OpenClaim := { program := "ytocbgeneabmnmaa", sum := "178463065aa97a5cd87e43688d89b8dc3988da6a665e91d058854204e4350c52", func := "loop.example/g00900/laws.FnExactTripsRunning", spec := "fnExactTripsRunning", apart := false, narrowed := true }
def FnExactTripsRunningUptoSaid : Prop := fnExactTripsRunningUptoRow.holds Try.pinned (OpenSpec.upto fnExactTripsRunningSpec)

/-- 'laws.FnExactShiftTrip', WHERE WHAT IT READS IS OF BULK AT MOST 1048576: true; the input reads as it did. -/
def fnExactShiftTripUptoRow : OpenClaim := { program := "ytocbgeneabmnmaa", sum := "178463065aa97a5cd87e43688d89b8dc3988da6a665e91d058854204e4350c52", func := "loop.example/g00900/laws.FnExactShiftTrip", spec := "fnExactShiftTrip", unfollowed := true, recurses := true, apart := false, narrowed := true }
def FnExactShiftTripUptoSaid : Prop := fnExactShiftTripUptoRow.holds Try.pinned (OpenSpec.upto fnExactShiftTripSpec)

end Rows
end Go.Proofs.Ytocbgeneabmnmaa
