/-
  No cell of these rows narrows 'for every input' (looked for: loops, veiled, ifaces, maps, wideKeys, modest, calm, conditions, laid).
  DERIVED. THE GIVEN ROWS OF THIS SEAT. 12 by the template 'for every input the law returns true; each argument reads behind the call as it read before'; 0 by the template 'total and deterministic' (their statements: YtniankcjgcackaaTotals.lean).
  GIVEN WITH THE SEED: the statements are not yours to turn. If you find one false, say at which input.
  Laid BY PROGRAM, IN A SANDBOX (cutbox-rows.mjs): the forced cells as the released guide's own fill.sh prints them over the translation 3e36db760171dcd1… (all of the seat's roots in one cut). By AI agents, Wed Nov 11 2026. No macro, syntax, notation, axiom, sorry.
-/
import Derived.Test.YtniankcjgcackaaChecked
import GoSem.Claim
import GoSem.ClaimJoined
import GoSem.ClaimMapViews
import Derived.JoinedTies
import Derived.KernelRfl
namespace Go.Proofs.Ytniankcjgcackaa
/- THE CELL 'sum', in the pinned program and in every row, IS THE sha256 OF THE DUMP (.gsa) THAT YtniankcjgcackaaProg.lean LOADS. Nothing in Lean hashes anything: it is a label: what it is worth is what the hold of that sum in a sandbox is worth. -/
noncomputable def Try.pinned : Pinned := { name := "ytniankcjgcackaa", sum := "3e36db760171dcd15e85a4152fa5028e9949e36fb3c106bb0ea3d0cd535b1158", checked := Try.checked }
namespace Rows
def none {H : Type} : Left H := { results := [], args := [] }

/-- 'laws.FnExactIsValidJourney': WHATEVER THE INPUT: true; the input reads as it did. -/
def fnExactIsValidJourneySpec : ChangeSpec := { name := "fnExactIsValidJourney", fn := fun _ => fun
  | [d1, d2, d3] => { results := [.lit (.bool true)], args := [d1, d2, d3] }
  | _ => none }
def fnExactIsValidJourneyRow : OpenClaim := { program := "ytniankcjgcackaa", sum := "3e36db760171dcd15e85a4152fa5028e9949e36fb3c106bb0ea3d0cd535b1158", func := "loop.example/g00900/laws.FnExactIsValidJourney", spec := "fnExactIsValidJourney", plainKeys := false, apart := false }
def FnExactIsValidJourneySaid : Prop := fnExactIsValidJourneyRow.holds Try.pinned (OpenSpec.ofChange fnExactIsValidJourneySpec)

/-- ITS FALSE NEIGHBOUR: 'it returns false'. Refute it at one input. -/
def fnExactIsValidJourneyWrong : ChangeSpec := { name := "fnExactIsValidJourney", fn := fun _ => fun
  | [d1, d2, d3] => { results := [.lit (.bool false)], args := [d1, d2, d3] }
  | _ => none }
def FnExactIsValidJourneyWrongFalsely : Prop := fnExactIsValidJourneyRow.holds Try.pinned (OpenSpec.ofChange fnExactIsValidJourneyWrong)

/-- 'laws.FnExactEarliestArrivals': WHATEVER THE INPUT: true; the input reads as it did. -/
def fnExactEarliestArrivalsSpec : ChangeSpec := { name := "fnExactEarliestArrivals", fn := fun _ => fun
  | [d1, d2, d3, d4] => { results := [.lit (.bool true)], args := [d1, d2, d3, d4] }
  | _ => none }
def fnExactEarliestArrivalsRow : OpenClaim := { program := "ytniankcjgcackaa", sum := "3e36db760171dcd15e85a4152fa5028e9949e36fb3c106bb0ea3d0cd535b1158", func := "loop.example/g00900/laws.FnExactEarliestArrivals", spec := "fnExactEarliestArrivals", unfollowed := true, recurses := true, plainKeys := false, apart := false }
def FnExactEarliestArrivalsSaid : Prop := fnExactEarliestArrivalsRow.holds Try.pinned (OpenSpec.ofChange fnExactEarliestArrivalsSpec)

/-- ITS FALSE NEIGHBOUR: 'it returns false'. Refute it at one input. -/
def fnExactEarliestArrivalsWrong : ChangeSpec := { name := "fnExactEarliestArrivals", fn := fun _ => fun
  | [d1, d2, d3, d4] => { results := [.lit (.bool false)], args := [d1, d2, d3, d4] }
  | _ => none }
def FnExactEarliestArrivalsWrongFalsely : Prop := fnExactEarliestArrivalsRow.holds Try.pinned (OpenSpec.ofChange fnExactEarliestArrivalsWrong)

/-- 'laws.FnExactEarliestJourney': WHATEVER THE INPUT: true; the input reads as it did. -/
def fnExactEarliestJourneySpec : ChangeSpec := { name := "fnExactEarliestJourney", fn := fun _ => fun
  | [d1, d2, d3, d4, d5] => { results := [.lit (.bool true)], args := [d1, d2, d3, d4, d5] }
  | _ => none }
def fnExactEarliestJourneyRow : OpenClaim := { program := "ytniankcjgcackaa", sum := "3e36db760171dcd15e85a4152fa5028e9949e36fb3c106bb0ea3d0cd535b1158", func := "loop.example/g00900/laws.FnExactEarliestJourney", spec := "fnExactEarliestJourney", unfollowed := true, recurses := true, plainKeys := false, apart := false }
def FnExactEarliestJourneySaid : Prop := fnExactEarliestJourneyRow.holds Try.pinned (OpenSpec.ofChange fnExactEarliestJourneySpec)

/-- ITS FALSE NEIGHBOUR: 'it returns false'. Refute it at one input. -/
def fnExactEarliestJourneyWrong : ChangeSpec := { name := "fnExactEarliestJourney", fn := fun _ => fun
  | [d1, d2, d3, d4, d5] => { results := [.lit (.bool false)], args := [d1, d2, d3, d4, d5] }
  | _ => none }
def FnExactEarliestJourneyWrongFalsely : Prop := fnExactEarliestJourneyRow.holds Try.pinned (OpenSpec.ofChange fnExactEarliestJourneyWrong)

/-- 'laws.FnExactLatestDeparture': WHATEVER THE INPUT: true; the input reads as it did. -/
def fnExactLatestDepartureSpec : ChangeSpec := { name := "fnExactLatestDeparture", fn := fun _ => fun
  | [d1, d2, d3, d4, d5] => { results := [.lit (.bool true)], args := [d1, d2, d3, d4, d5] }
  | _ => none }
def fnExactLatestDepartureRow : OpenClaim := { program := "ytniankcjgcackaa", sum := "3e36db760171dcd15e85a4152fa5028e9949e36fb3c106bb0ea3d0cd535b1158", func := "loop.example/g00900/laws.FnExactLatestDeparture", spec := "fnExactLatestDeparture", unfollowed := true, recurses := true, plainKeys := false, apart := false }
def FnExactLatestDepartureSaid : Prop := fnExactLatestDepartureRow.holds Try.pinned (OpenSpec.ofChange fnExactLatestDepartureSpec)

/-- ITS FALSE NEIGHBOUR: 'it returns false'. Refute it at one input. -/
def fnExactLatestDepartureWrong : ChangeSpec := { name := "fnExactLatestDeparture", fn := fun _ => fun
  | [d1, d2, d3, d4, d5] => { results := [.lit (.bool false)], args := [d1, d2, d3, d4, d5] }
  | _ => none }
def FnExactLatestDepartureWrongFalsely : Prop := fnExactLatestDepartureRow.holds Try.pinned (OpenSpec.ofChange fnExactLatestDepartureWrong)

/-- 'laws.FnExactReachedBy': WHATEVER THE INPUT: true; the input reads as it did. -/
def fnExactReachedBySpec : ChangeSpec := { name := "fnExactReachedBy", fn := fun _ => fun
  | [d1, d2, d3, d4, d5] => { results := [.lit (.bool true)], args := [d1, d2, d3, d4, d5] }
  | _ => none }
def fnExactReachedByRow : OpenClaim := { program := "ytniankcjgcackaa", sum := "3e36db760171dcd15e85a4152fa5028e9949e36fb3c106bb0ea3d0cd535b1158", func := "loop.example/g00900/laws.FnExactReachedBy", spec := "fnExactReachedBy", unfollowed := true, recurses := true, plainKeys := false, apart := false }
def FnExactReachedBySaid : Prop := fnExactReachedByRow.holds Try.pinned (OpenSpec.ofChange fnExactReachedBySpec)

/-- ITS FALSE NEIGHBOUR: 'it returns false'. Refute it at one input. -/
def fnExactReachedByWrong : ChangeSpec := { name := "fnExactReachedBy", fn := fun _ => fun
  | [d1, d2, d3, d4, d5] => { results := [.lit (.bool false)], args := [d1, d2, d3, d4, d5] }
  | _ => none }
def FnExactReachedByWrongFalsely : Prop := fnExactReachedByRow.holds Try.pinned (OpenSpec.ofChange fnExactReachedByWrong)

/-- 'laws.FnExactJourneyTimes': WHATEVER THE INPUT: true; the input reads as it did. -/
def fnExactJourneyTimesSpec : ChangeSpec := { name := "fnExactJourneyTimes", fn := fun _ => fun
  | [d1, d2, d3] => { results := [.lit (.bool true)], args := [d1, d2, d3] }
  | _ => none }
def fnExactJourneyTimesRow : OpenClaim := { program := "ytniankcjgcackaa", sum := "3e36db760171dcd15e85a4152fa5028e9949e36fb3c106bb0ea3d0cd535b1158", func := "loop.example/g00900/laws.FnExactJourneyTimes", spec := "fnExactJourneyTimes", plainKeys := false, apart := false }
def FnExactJourneyTimesSaid : Prop := fnExactJourneyTimesRow.holds Try.pinned (OpenSpec.ofChange fnExactJourneyTimesSpec)

/-- ITS FALSE NEIGHBOUR: 'it returns false'. Refute it at one input. -/
def fnExactJourneyTimesWrong : ChangeSpec := { name := "fnExactJourneyTimes", fn := fun _ => fun
  | [d1, d2, d3] => { results := [.lit (.bool false)], args := [d1, d2, d3] }
  | _ => none }
def FnExactJourneyTimesWrongFalsely : Prop := fnExactJourneyTimesRow.holds Try.pinned (OpenSpec.ofChange fnExactJourneyTimesWrong)

/-- 'laws.FnExactFillLeg': WHATEVER THE INPUT: true; the input reads as it did. -/
def fnExactFillLegSpec : ChangeSpec := { name := "fnExactFillLeg", fn := fun _ => fun
  | [d1, d2, d3, d4] => { results := [.lit (.bool true)], args := [d1, d2, d3, d4] }
  | _ => none }
def fnExactFillLegRow : OpenClaim := { program := "ytniankcjgcackaa", sum := "3e36db760171dcd15e85a4152fa5028e9949e36fb3c106bb0ea3d0cd535b1158", func := "loop.example/g00900/laws.FnExactFillLeg", spec := "fnExactFillLeg", plainKeys := false, apart := false }
def FnExactFillLegSaid : Prop := fnExactFillLegRow.holds Try.pinned (OpenSpec.ofChange fnExactFillLegSpec)

/-- ITS FALSE NEIGHBOUR: 'it returns false'. Refute it at one input. -/
def fnExactFillLegWrong : ChangeSpec := { name := "fnExactFillLeg", fn := fun _ => fun
  | [d1, d2, d3, d4] => { results := [.lit (.bool false)], args := [d1, d2, d3, d4] }
  | _ => none }
def FnExactFillLegWrongFalsely : Prop := fnExactFillLegRow.holds Try.pinned (OpenSpec.ofChange fnExactFillLegWrong)

/-- 'laws.FnExactServedStops': WHATEVER THE INPUT: true; the input reads as it did. -/
def fnExactServedStopsSpec : ChangeSpec := { name := "fnExactServedStops", fn := fun _ => fun
  | [d1, d2, d3] => { results := [.lit (.bool true)], args := [d1, d2, d3] }
  | _ => none }
def fnExactServedStopsRow : OpenClaim := { program := "ytniankcjgcackaa", sum := "3e36db760171dcd15e85a4152fa5028e9949e36fb3c106bb0ea3d0cd535b1158", func := "loop.example/g00900/laws.FnExactServedStops", spec := "fnExactServedStops", unfollowed := true, recurses := true, plainKeys := false, apart := false }
def FnExactServedStopsSaid : Prop := fnExactServedStopsRow.holds Try.pinned (OpenSpec.ofChange fnExactServedStopsSpec)

/-- ITS FALSE NEIGHBOUR: 'it returns false'. Refute it at one input. -/
def fnExactServedStopsWrong : ChangeSpec := { name := "fnExactServedStops", fn := fun _ => fun
  | [d1, d2, d3] => { results := [.lit (.bool false)], args := [d1, d2, d3] }
  | _ => none }
def FnExactServedStopsWrongFalsely : Prop := fnExactServedStopsRow.holds Try.pinned (OpenSpec.ofChange fnExactServedStopsWrong)

/-- 'laws.FnExactAddTrip': WHATEVER THE INPUT: true; the input reads as it did. -/
def fnExactAddTripSpec : ChangeSpec := { name := "fnExactAddTrip", fn := fun _ => fun
  | [d1, d2] => { results := [.lit (.bool true)], args := [d1, d2] }
  | _ => none }
def fnExactAddTripRow : OpenClaim := { program := "ytniankcjgcackaa", sum := "3e36db760171dcd15e85a4152fa5028e9949e36fb3c106bb0ea3d0cd535b1158", func := "loop.example/g00900/laws.FnExactAddTrip", spec := "fnExactAddTrip", inPlace := ["slices.overlaps[loop.example/g00900/impl.Trip]"], unfollowed := true, recurses := true, plainKeys := false, apart := false }
def FnExactAddTripSaid : Prop := fnExactAddTripRow.holds Try.pinned (OpenSpec.ofChange fnExactAddTripSpec)

/-- ITS FALSE NEIGHBOUR: 'it returns false'. Refute it at one input. -/
def fnExactAddTripWrong : ChangeSpec := { name := "fnExactAddTrip", fn := fun _ => fun
  | [d1, d2] => { results := [.lit (.bool false)], args := [d1, d2] }
  | _ => none }
def FnExactAddTripWrongFalsely : Prop := fnExactAddTripRow.holds Try.pinned (OpenSpec.ofChange fnExactAddTripWrong)

/-- 'laws.FnExactDeparturesAt': WHATEVER THE INPUT: true; the input reads as it did. -/
def fnExactDeparturesAtSpec : ChangeSpec := { name := "fnExactDeparturesAt", fn := fun _ => fun
  | [d1, d2, d3] => { results := [.lit (.bool true)], args := [d1, d2, d3] }
  | _ => none }
def fnExactDeparturesAtRow : OpenClaim := { program := "ytniankcjgcackaa", sum := "3e36db760171dcd15e85a4152fa5028e9949e36fb3c106bb0ea3d0cd535b1158", func := "loop.example/g00900/laws.FnExactDeparturesAt", spec := "fnExactDeparturesAt", unfollowed := true, recurses := true, plainKeys := false, apart := false }
def FnExactDeparturesAtSaid : Prop := fnExactDeparturesAtRow.holds Try.pinned (OpenSpec.ofChange fnExactDeparturesAtSpec)

/-- ITS FALSE NEIGHBOUR: 'it returns false'. Refute it at one input. -/
def fnExactDeparturesAtWrong : ChangeSpec := { name := "fnExactDeparturesAt", fn := fun _ => fun
  | [d1, d2, d3] => { results := [.lit (.bool false)], args := [d1, d2, d3] }
  | _ => none }
def FnExactDeparturesAtWrongFalsely : Prop := fnExactDeparturesAtRow.holds Try.pinned (OpenSpec.ofChange fnExactDeparturesAtWrong)

/-- 'laws.FnServiceDays': WHATEVER THE INPUT: true; the input reads as it did. -/
def fnServiceDaysSpec : ChangeSpec := { name := "fnServiceDays", fn := fun _ => fun
  | [d] => { results := [.lit (.bool true)], args := [d] }
  | _ => none }
def fnServiceDaysRow : OpenClaim := { program := "ytniankcjgcackaa", sum := "3e36db760171dcd15e85a4152fa5028e9949e36fb3c106bb0ea3d0cd535b1158", func := "loop.example/g00900/laws.FnServiceDays", spec := "fnServiceDays", unfollowed := true, recurses := true, plainKeys := false, apart := false }
def FnServiceDaysSaid : Prop := fnServiceDaysRow.holds Try.pinned (OpenSpec.ofChange fnServiceDaysSpec)

/-- ITS FALSE NEIGHBOUR: 'it returns false'. Refute it at one input. -/
def fnServiceDaysWrong : ChangeSpec := { name := "fnServiceDays", fn := fun _ => fun
  | [d] => { results := [.lit (.bool false)], args := [d] }
  | _ => none }
def FnServiceDaysWrongFalsely : Prop := fnServiceDaysRow.holds Try.pinned (OpenSpec.ofChange fnServiceDaysWrong)

/-- 'laws.FnLines': WHATEVER THE INPUT: true; the input reads as it did. -/
def fnLinesSpec : ChangeSpec := { name := "fnLines", fn := fun _ => fun
  | [d] => { results := [.lit (.bool true)], args := [d] }
  | _ => none }
def fnLinesRow : OpenClaim := { program := "ytniankcjgcackaa", sum := "3e36db760171dcd15e85a4152fa5028e9949e36fb3c106bb0ea3d0cd535b1158", func := "loop.example/g00900/laws.FnLines", spec := "fnLines", unfollowed := true, recurses := true, plainKeys := false, apart := false }
def FnLinesSaid : Prop := fnLinesRow.holds Try.pinned (OpenSpec.ofChange fnLinesSpec)

/-- ITS FALSE NEIGHBOUR: 'it returns false'. Refute it at one input. -/
def fnLinesWrong : ChangeSpec := { name := "fnLines", fn := fun _ => fun
  | [d] => { results := [.lit (.bool false)], args := [d] }
  | _ => none }
def FnLinesWrongFalsely : Prop := fnLinesRow.holds Try.pinned (OpenSpec.ofChange fnLinesWrong)

/- THE SECOND FORM. 'bulk': how many values and letters a reading holds, each counted each time it is reached (what is shared counts as often as it is met; a slice's spare places count too). A statement '..UptoSaid' is the law's where the arguments, and the package variables that the reading takes, are together of bulk at most 1048576: NARROWER than '..Said'. Prove '..Said' where nothing that the law and all that it calls make is longer than what came in: it says more and counts as full. Else prove '..UptoSaid'. A law counts once. -/
mutual
def uptoBulk {H : Type} : DataW H → Nat
  | .lit (.string bytes) => bytes.length + 1
  | .lit _ => 1
  | .nil => 1
  | .ptr d => uptoBulk d + 1
  | .slice elems spare => uptoBulkAll elems + uptoBulkAll spare + 1
  | .agg parts => uptoBulkAll parts + 1
  | .iface _ d => uptoBulk d + 1
  | .map entries => uptoBulkEntries entries + 1
  | .held _ => 1
def uptoBulkAll {H : Type} : List (DataW H) → Nat
  | [] => 0
  | d :: r => uptoBulk d + uptoBulkAll r
def uptoBulkEntries {H : Type} : List (Lit × DataW H) → Nat
  | [] => 0
  | x :: r => uptoBulkEntry x + uptoBulkEntries r
def uptoBulkEntry {H : Type} : Lit × DataW H → Nat
  | (.string bytes, d) => bytes.length + uptoBulk d + 1
  | (_, d) => uptoBulk d + 1
 end
def uptoSmall : (H : Type) → List (DataW H) → Bool := fun _ ds => decide (uptoBulkAll ds ≤ 1048576)
def OpenSpec.upto (s : _root_.Go.ChangeSpec) : _root_.Go.OpenSpec := { _root_.Go.OpenSpec.ofChange s with cond := some uptoSmall }

/-- 'laws.FnExactIsValidJourney', WHERE WHAT IT READS IS OF BULK AT MOST 1048576: true; the input reads as it did. -/
def fnExactIsValidJourneyUptoRow : OpenClaim := { program := "ytniankcjgcackaa", sum := "3e36db760171dcd15e85a4152fa5028e9949e36fb3c106bb0ea3d0cd535b1158", func := "loop.example/g00900/laws.FnExactIsValidJourney", spec := "fnExactIsValidJourney", plainKeys := false, apart := false, narrowed := true }
def FnExactIsValidJourneyUptoSaid : Prop := fnExactIsValidJourneyUptoRow.holds Try.pinned (OpenSpec.upto fnExactIsValidJourneySpec)

/-- 'laws.FnExactEarliestArrivals', WHERE WHAT IT READS IS OF BULK AT MOST 1048576: true; the input reads as it did. -/
def fnExactEarliestArrivalsUptoRow : OpenClaim := { program := "ytniankcjgcackaa", sum := "3e36db760171dcd15e85a4152fa5028e9949e36fb3c106bb0ea3d0cd535b1158", func := "loop.example/g00900/laws.FnExactEarliestArrivals", spec := "fnExactEarliestArrivals", unfollowed := true, recurses := true, plainKeys := false, apart := false, narrowed := true }
def FnExactEarliestArrivalsUptoSaid : Prop := fnExactEarliestArrivalsUptoRow.holds Try.pinned (OpenSpec.upto fnExactEarliestArrivalsSpec)

/-- 'laws.FnExactEarliestJourney', WHERE WHAT IT READS IS OF BULK AT MOST 1048576: true; the input reads as it did. -/
def fnExactEarliestJourneyUptoRow : OpenClaim := { program := "ytniankcjgcackaa", sum := "3e36db760171dcd15e85a4152fa5028e9949e36fb3c106bb0ea3d0cd535b1158", func := "loop.example/g00900/laws.FnExactEarliestJourney", spec := "fnExactEarliestJourney", unfollowed := true, recurses := true, plainKeys := false, apart := false, narrowed := true }
def FnExactEarliestJourneyUptoSaid : Prop := fnExactEarliestJourneyUptoRow.holds Try.pinned (OpenSpec.upto fnExactEarliestJourneySpec)

/-- 'laws.FnExactLatestDeparture', WHERE WHAT IT READS IS OF BULK AT MOST 1048576: true; the input reads as it did. -/
def fnExactLatestDepartureUptoRow : OpenClaim := { program := "ytniankcjgcackaa", sum := "3e36db760171dcd15e85a4152fa5028e9949e36fb3c106bb0ea3d0cd535b1158", func := "loop.example/g00900/laws.FnExactLatestDeparture", spec := "fnExactLatestDeparture", unfollowed := true, recurses := true, plainKeys := false, apart := false, narrowed := true }
def FnExactLatestDepartureUptoSaid : Prop := fnExactLatestDepartureUptoRow.holds Try.pinned (OpenSpec.upto fnExactLatestDepartureSpec)

/-- 'laws.FnExactReachedBy', WHERE WHAT IT READS IS OF BULK AT MOST 1048576: true; the input reads as it did. -/
def fnExactReachedByUptoRow : OpenClaim := { program := "ytniankcjgcackaa", sum := "3e36db760171dcd15e85a4152fa5028e9949e36fb3c106bb0ea3d0cd535b1158", func := "loop.example/g00900/laws.FnExactReachedBy", spec := "fnExactReachedBy", unfollowed := true, recurses := true, plainKeys := false, apart := false, narrowed := true }
def FnExactReachedByUptoSaid : Prop := fnExactReachedByUptoRow.holds Try.pinned (OpenSpec.upto fnExactReachedBySpec)

/-- 'laws.FnExactJourneyTimes', WHERE WHAT IT READS IS OF BULK AT MOST 1048576: true; the input reads as it did. -/
def fnExactJourneyTimesUptoRow : OpenClaim := { program := "ytniankcjgcackaa", sum := "3e36db760171dcd15e85a4152fa5028e9949e36fb3c106bb0ea3d0cd535b1158", func := "loop.example/g00900/laws.FnExactJourneyTimes", spec := "fnExactJourneyTimes", plainKeys := false, apart := false, narrowed := true }
def FnExactJourneyTimesUptoSaid : Prop := fnExactJourneyTimesUptoRow.holds Try.pinned (OpenSpec.upto fnExactJourneyTimesSpec)

/-- 'laws.FnExactFillLeg', WHERE WHAT IT READS IS OF BULK AT MOST 1048576: true; the input reads as it did. -/
def fnExactFillLegUptoRow : OpenClaim := { program := "ytniankcjgcackaa", sum := "3e36db760171dcd15e85a4152fa5028e9949e36fb3c106bb0ea3d0cd535b1158", func := "loop.example/g00900/laws.FnExactFillLeg", spec := "fnExactFillLeg", plainKeys := false, apart := false, narrowed := true }
def FnExactFillLegUptoSaid : Prop := fnExactFillLegUptoRow.holds Try.pinned (OpenSpec.upto fnExactFillLegSpec)

/-- 'laws.FnExactServedStops', WHERE WHAT IT READS IS OF BULK AT MOST 1048576: true; the input reads as it did. -/
def fnExactServedStopsUptoRow : OpenClaim := { program := "ytniankcjgcackaa", sum := "3e36db760171dcd15e85a4152fa5028e9949e36fb3c106bb0ea3d0cd535b1158", func := "loop.example/g00900/laws.FnExactServedStops", spec := "fnExactServedStops", unfollowed := true, recurses := true, plainKeys := false, apart := false, narrowed := true }
def FnExactServedStopsUptoSaid : Prop := fnExactServedStopsUptoRow.holds Try.pinned (OpenSpec.upto fnExactServedStopsSpec)

/-- 'laws.FnExactAddTrip', WHERE WHAT IT READS IS OF BULK AT MOST 1048576: true; the input reads as it did. -/
def fnExactAddTripUptoRow : OpenClaim := { program := "ytniankcjgcackaa", sum := "3e36db760171dcd15e85a4152fa5028e9949e36fb3c106bb0ea3d0cd535b1158", func := "loop.example/g00900/laws.FnExactAddTrip", spec := "fnExactAddTrip", inPlace := ["slices.overlaps[loop.example/g00900/impl.Trip]"], unfollowed := true, recurses := true, plainKeys := false, apart := false, narrowed := true }
def FnExactAddTripUptoSaid : Prop := fnExactAddTripUptoRow.holds Try.pinned (OpenSpec.upto fnExactAddTripSpec)

/-- 'laws.FnExactDeparturesAt', WHERE WHAT IT READS IS OF BULK AT MOST 1048576: true; the input reads as it did. -/
def fnExactDeparturesAtUptoRow : OpenClaim := { program := "ytniankcjgcackaa", sum := "3e36db760171dcd15e85a4152fa5028e9949e36fb3c106bb0ea3d0cd535b1158", func := "loop.example/g00900/laws.FnExactDeparturesAt", spec := "fnExactDeparturesAt", unfollowed := true, recurses := true, plainKeys := false, apart := false, narrowed := true }
def FnExactDeparturesAtUptoSaid : Prop := fnExactDeparturesAtUptoRow.holds Try.pinned (OpenSpec.upto fnExactDeparturesAtSpec)

/-- 'laws.FnServiceDays', WHERE WHAT IT READS IS OF BULK AT MOST 1048576: true; the input reads as it did. -/
def fnServiceDaysUptoRow : OpenClaim := { program := "ytniankcjgcackaa", sum := "3e36db760171dcd15e85a4152fa5028e9949e36fb3c106bb0ea3d0cd535b1158", func := "loop.example/g00900/laws.FnServiceDays", spec := "fnServiceDays", unfollowed := true, recurses := true, plainKeys := false, apart := false, narrowed := true }
def FnServiceDaysUptoSaid : Prop := fnServiceDaysUptoRow.holds Try.pinned (OpenSpec.upto fnServiceDaysSpec)

/-- 'laws.FnLines', WHERE WHAT IT READS IS OF BULK AT MOST 1048576: true; the input reads as it did. -/
def fnLinesUptoRow : OpenClaim := { program := "ytniankcjgcackaa", sum := "3e36db760171dcd15e85a4152fa5028e9949e36fb3c106bb0ea3d0cd535b1158", func := "loop.example/g00900/laws.FnLines", spec := "fnLines", unfollowed := true, recurses := true, plainKeys := false, apart := false, narrowed := true }
def FnLinesUptoSaid : Prop := fnLinesUptoRow.holds Try.pinned (OpenSpec.upto fnLinesSpec)

end Rows
end Go.Proofs.Ytniankcjgcackaa
