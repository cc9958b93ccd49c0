/-
  No cell of these rows narrows 'for every input' (looked for: loops, veiled, ifaces, maps, wideKeys, modest, calm, conditions, laid).
  DERIVED. THE GIVEN ROWS OF THIS SEAT. 13 by the template 'for every input the law returns true; each argument reads behind the call as it read before'; 0 by the template 'total and deterministic' (their statements: YtffcgblionlhhaaTotals.lean).
  GIVEN WITH THE SEED: the statements are not yours to turn. If you find one false, say at which input.
  Laid BY PROGRAM, IN A SANDBOX (cutbox-rows.mjs): the forced cells as the released guide's own fill.sh prints them over the translation 2d5ab8b4ec35e75d… (all of the seat's roots in one cut). By AI agents, Wed Nov 11 2026. No macro, syntax, notation, axiom, sorry.
-/
import Derived.Test.YtffcgblionlhhaaChecked
import GoSem.Claim
import GoSem.ClaimJoined
import GoSem.ClaimMapViews
import Derived.JoinedTies
import Derived.KernelRfl
namespace Go.Proofs.Ytffcgblionlhhaa
/- THE CELL 'sum', in the pinned program and in every row, IS THE sha256 OF THE DUMP (.gsa) THAT YtffcgblionlhhaaProg.lean LOADS. Nothing in Lean hashes anything: it is a label: what it is worth is what the hold of that sum in a sandbox is worth. -/
noncomputable def Try.pinned : Pinned := { name := "ytffcgblionlhhaa", sum := "2d5ab8b4ec35e75ddb1a3a2839ddca00a22937d016ae4624553b4456dbc50abd", checked := Try.checked }
namespace Rows
def none {H : Type} : Left H := { results := [], args := [] }

/-- 'laws.FnSplitJoin': WHATEVER THE INPUT: true; the input reads as it did. -/
def fnSplitJoinSpec : ChangeSpec := { name := "fnSplitJoin", fn := fun _ => fun
  | [d] => { results := [.lit (.bool true)], args := [d] }
  | _ => none }
def fnSplitJoinRow : OpenClaim := { program := "ytffcgblionlhhaa", sum := "2d5ab8b4ec35e75ddb1a3a2839ddca00a22937d016ae4624553b4456dbc50abd", func := "loop.example/g00900/laws.FnSplitJoin", spec := "fnSplitJoin", inPlace := ["internal/bytealg.IndexByteString", "internal/bytealg.IndexString", "internal/abi.NoEscape", "internal/bytealg.MakeNoZero"], unfollowed := true, recurses := true, named := ["internal/bytealg.MaxLen"], apart := false }
def FnSplitJoinSaid : Prop := fnSplitJoinRow.holds Try.pinned (OpenSpec.ofChange fnSplitJoinSpec)

/-- ITS FALSE NEIGHBOUR: 'it returns false'. Refute it at one input. -/
def fnSplitJoinWrong : ChangeSpec := { name := "fnSplitJoin", fn := fun _ => fun
  | [d] => { results := [.lit (.bool false)], args := [d] }
  | _ => none }
def FnSplitJoinWrongFalsely : Prop := fnSplitJoinRow.holds Try.pinned (OpenSpec.ofChange fnSplitJoinWrong)

/-- 'laws.FnLines': WHATEVER THE INPUT: true; the input reads as it did. -/
def fnLinesSpec : ChangeSpec := { name := "fnLines", fn := fun _ => fun
  | [d] => { results := [.lit (.bool true)], args := [d] }
  | _ => none }
def fnLinesRow : OpenClaim := { program := "ytffcgblionlhhaa", sum := "2d5ab8b4ec35e75ddb1a3a2839ddca00a22937d016ae4624553b4456dbc50abd", func := "loop.example/g00900/laws.FnLines", spec := "fnLines", unfollowed := true, recurses := true, apart := false }
def FnLinesSaid : Prop := fnLinesRow.holds Try.pinned (OpenSpec.ofChange fnLinesSpec)

/-- ITS FALSE NEIGHBOUR: 'it returns false'. Refute it at one input. -/
def fnLinesWrong : ChangeSpec := { name := "fnLines", fn := fun _ => fun
  | [d] => { results := [.lit (.bool false)], args := [d] }
  | _ => none }
def FnLinesWrongFalsely : Prop := fnLinesRow.holds Try.pinned (OpenSpec.ofChange fnLinesWrong)

/-- 'laws.FnReach': WHATEVER THE INPUT: true; the input reads as it did. -/
def fnReachSpec : ChangeSpec := { name := "fnReach", fn := fun _ => fun
  | [d] => { results := [.lit (.bool true)], args := [d] }
  | _ => none }
def fnReachRow : OpenClaim := { program := "ytffcgblionlhhaa", sum := "2d5ab8b4ec35e75ddb1a3a2839ddca00a22937d016ae4624553b4456dbc50abd", func := "loop.example/g00900/laws.FnReach", spec := "fnReach", unfollowed := true, recurses := true, apart := false }
def FnReachSaid : Prop := fnReachRow.holds Try.pinned (OpenSpec.ofChange fnReachSpec)

/-- ITS FALSE NEIGHBOUR: 'it returns false'. Refute it at one input. -/
def fnReachWrong : ChangeSpec := { name := "fnReach", fn := fun _ => fun
  | [d] => { results := [.lit (.bool false)], args := [d] }
  | _ => none }
def FnReachWrongFalsely : Prop := fnReachRow.holds Try.pinned (OpenSpec.ofChange fnReachWrong)

/-- 'laws.FnExactReverseLine': WHATEVER THE INPUT: true; the input reads as it did. -/
def fnExactReverseLineSpec : ChangeSpec := { name := "fnExactReverseLine", fn := fun _ => fun
  | [d1, d2, d3] => { results := [.lit (.bool true)], args := [d1, d2, d3] }
  | _ => none }
def fnExactReverseLineRow : OpenClaim := { program := "ytffcgblionlhhaa", sum := "2d5ab8b4ec35e75ddb1a3a2839ddca00a22937d016ae4624553b4456dbc50abd", func := "loop.example/g00900/laws.FnExactReverseLine", spec := "fnExactReverseLine", apart := false }
def FnExactReverseLineSaid : Prop := fnExactReverseLineRow.holds Try.pinned (OpenSpec.ofChange fnExactReverseLineSpec)

/-- ITS FALSE NEIGHBOUR: 'it returns false'. Refute it at one input. -/
def fnExactReverseLineWrong : ChangeSpec := { name := "fnExactReverseLine", fn := fun _ => fun
  | [d1, d2, d3] => { results := [.lit (.bool false)], args := [d1, d2, d3] }
  | _ => none }
def FnExactReverseLineWrongFalsely : Prop := fnExactReverseLineRow.holds Try.pinned (OpenSpec.ofChange fnExactReverseLineWrong)

/-- 'laws.FnExactReachableStops': WHATEVER THE INPUT: true; the input reads as it did. -/
def fnExactReachableStopsSpec : ChangeSpec := { name := "fnExactReachableStops", fn := fun _ => fun
  | [d1, d2] => { results := [.lit (.bool true)], args := [d1, d2] }
  | _ => none }
def fnExactReachableStopsRow : OpenClaim := { program := "ytffcgblionlhhaa", sum := "2d5ab8b4ec35e75ddb1a3a2839ddca00a22937d016ae4624553b4456dbc50abd", func := "loop.example/g00900/laws.FnExactReachableStops", spec := "fnExactReachableStops", unfollowed := true, recurses := true, apart := false }
def FnExactReachableStopsSaid : Prop := fnExactReachableStopsRow.holds Try.pinned (OpenSpec.ofChange fnExactReachableStopsSpec)

/-- ITS FALSE NEIGHBOUR: 'it returns false'. Refute it at one input. -/
def fnExactReachableStopsWrong : ChangeSpec := { name := "fnExactReachableStops", fn := fun _ => fun
  | [d1, d2] => { results := [.lit (.bool false)], args := [d1, d2] }
  | _ => none }
def FnExactReachableStopsWrongFalsely : Prop := fnExactReachableStopsRow.holds Try.pinned (OpenSpec.ofChange fnExactReachableStopsWrong)

/-- 'laws.FnExactFewestLines': WHATEVER THE INPUT: true; the input reads as it did. -/
def fnExactFewestLinesSpec : ChangeSpec := { name := "fnExactFewestLines", fn := fun _ => fun
  | [d1, d2, d3] => { results := [.lit (.bool true)], args := [d1, d2, d3] }
  | _ => none }
def fnExactFewestLinesRow : OpenClaim := { program := "ytffcgblionlhhaa", sum := "2d5ab8b4ec35e75ddb1a3a2839ddca00a22937d016ae4624553b4456dbc50abd", func := "loop.example/g00900/laws.FnExactFewestLines", spec := "fnExactFewestLines", apart := false }
def FnExactFewestLinesSaid : Prop := fnExactFewestLinesRow.holds Try.pinned (OpenSpec.ofChange fnExactFewestLinesSpec)

/-- ITS FALSE NEIGHBOUR: 'it returns false'. Refute it at one input. -/
def fnExactFewestLinesWrong : ChangeSpec := { name := "fnExactFewestLines", fn := fun _ => fun
  | [d1, d2, d3] => { results := [.lit (.bool false)], args := [d1, d2, d3] }
  | _ => none }
def FnExactFewestLinesWrongFalsely : Prop := fnExactFewestLinesRow.holds Try.pinned (OpenSpec.ofChange fnExactFewestLinesWrong)

/-- 'laws.FnServiceDays': WHATEVER THE INPUT: true; the input reads as it did. -/
def fnServiceDaysSpec : ChangeSpec := { name := "fnServiceDays", fn := fun _ => fun
  | [d] => { results := [.lit (.bool true)], args := [d] }
  | _ => none }
def fnServiceDaysRow : OpenClaim := { program := "ytffcgblionlhhaa", sum := "2d5ab8b4ec35e75ddb1a3a2839ddca00a22937d016ae4624553b4456dbc50abd", func := "loop.example/g00900/laws.FnServiceDays", spec := "fnServiceDays", unfollowed := true, recurses := true, apart := false }
def FnServiceDaysSaid : Prop := fnServiceDaysRow.holds Try.pinned (OpenSpec.ofChange fnServiceDaysSpec)

/-- ITS FALSE NEIGHBOUR: 'it returns false'. Refute it at one input. -/
def fnServiceDaysWrong : ChangeSpec := { name := "fnServiceDays", fn := fun _ => fun
  | [d] => { results := [.lit (.bool false)], args := [d] }
  | _ => none }
def FnServiceDaysWrongFalsely : Prop := fnServiceDaysRow.holds Try.pinned (OpenSpec.ofChange fnServiceDaysWrong)

/-- 'laws.FnExactAddTrip': WHATEVER THE INPUT: true; the input reads as it did. -/
def fnExactAddTripSpec : ChangeSpec := { name := "fnExactAddTrip", fn := fun _ => fun
  | [d1, d2] => { results := [.lit (.bool true)], args := [d1, d2] }
  | _ => none }
def fnExactAddTripRow : OpenClaim := { program := "ytffcgblionlhhaa", sum := "2d5ab8b4ec35e75ddb1a3a2839ddca00a22937d016ae4624553b4456dbc50abd", func := "loop.example/g00900/laws.FnExactAddTrip", spec := "fnExactAddTrip", inPlace := ["slices.overlaps[loop.example/g00900/impl.Trip]"], unfollowed := true, recurses := true, apart := false }
def FnExactAddTripSaid : Prop := fnExactAddTripRow.holds Try.pinned (OpenSpec.ofChange fnExactAddTripSpec)

/-- ITS FALSE NEIGHBOUR: 'it returns false'. Refute it at one input. -/
def fnExactAddTripWrong : ChangeSpec := { name := "fnExactAddTrip", fn := fun _ => fun
  | [d1, d2] => { results := [.lit (.bool false)], args := [d1, d2] }
  | _ => none }
def FnExactAddTripWrongFalsely : Prop := fnExactAddTripRow.holds Try.pinned (OpenSpec.ofChange fnExactAddTripWrong)

/-- 'laws.FnExactDeparturesAt': WHATEVER THE INPUT: true; the input reads as it did. -/
def fnExactDeparturesAtSpec : ChangeSpec := { name := "fnExactDeparturesAt", fn := fun _ => fun
  | [d1, d2, d3] => { results := [.lit (.bool true)], args := [d1, d2, d3] }
  | _ => none }
def fnExactDeparturesAtRow : OpenClaim := { program := "ytffcgblionlhhaa", sum := "2d5ab8b4ec35e75ddb1a3a2839ddca00a22937d016ae4624553b4456dbc50abd", func := "loop.example/g00900/laws.FnExactDeparturesAt", spec := "fnExactDeparturesAt", unfollowed := true, recurses := true, apart := false }
def FnExactDeparturesAtSaid : Prop := fnExactDeparturesAtRow.holds Try.pinned (OpenSpec.ofChange fnExactDeparturesAtSpec)

/-- ITS FALSE NEIGHBOUR: 'it returns false'. Refute it at one input. -/
def fnExactDeparturesAtWrong : ChangeSpec := { name := "fnExactDeparturesAt", fn := fun _ => fun
  | [d1, d2, d3] => { results := [.lit (.bool false)], args := [d1, d2, d3] }
  | _ => none }
def FnExactDeparturesAtWrongFalsely : Prop := fnExactDeparturesAtRow.holds Try.pinned (OpenSpec.ofChange fnExactDeparturesAtWrong)

/-- 'laws.FnTrips': WHATEVER THE INPUT: true; the input reads as it did. -/
def fnTripsSpec : ChangeSpec := { name := "fnTrips", fn := fun _ => fun
  | [d] => { results := [.lit (.bool true)], args := [d] }
  | _ => none }
def fnTripsRow : OpenClaim := { program := "ytffcgblionlhhaa", sum := "2d5ab8b4ec35e75ddb1a3a2839ddca00a22937d016ae4624553b4456dbc50abd", func := "loop.example/g00900/laws.FnTrips", spec := "fnTrips", inPlace := ["slices.overlaps[loop.example/g00900/impl.Trip]"], unfollowed := true, recurses := true, apart := false }
def FnTripsSaid : Prop := fnTripsRow.holds Try.pinned (OpenSpec.ofChange fnTripsSpec)

/-- ITS FALSE NEIGHBOUR: 'it returns false'. Refute it at one input. -/
def fnTripsWrong : ChangeSpec := { name := "fnTrips", fn := fun _ => fun
  | [d] => { results := [.lit (.bool false)], args := [d] }
  | _ => none }
def FnTripsWrongFalsely : Prop := fnTripsRow.holds Try.pinned (OpenSpec.ofChange fnTripsWrong)

/-- 'laws.FnDepartures': WHATEVER THE INPUT: true; the input reads as it did. -/
def fnDeparturesSpec : ChangeSpec := { name := "fnDepartures", fn := fun _ => fun
  | [d] => { results := [.lit (.bool true)], args := [d] }
  | _ => none }
def fnDeparturesRow : OpenClaim := { program := "ytffcgblionlhhaa", sum := "2d5ab8b4ec35e75ddb1a3a2839ddca00a22937d016ae4624553b4456dbc50abd", func := "loop.example/g00900/laws.FnDepartures", spec := "fnDepartures", unfollowed := true, recurses := true, apart := false }
def FnDeparturesSaid : Prop := fnDeparturesRow.holds Try.pinned (OpenSpec.ofChange fnDeparturesSpec)

/-- ITS FALSE NEIGHBOUR: 'it returns false'. Refute it at one input. -/
def fnDeparturesWrong : ChangeSpec := { name := "fnDepartures", fn := fun _ => fun
  | [d] => { results := [.lit (.bool false)], args := [d] }
  | _ => none }
def FnDeparturesWrongFalsely : Prop := fnDeparturesRow.holds Try.pinned (OpenSpec.ofChange fnDeparturesWrong)

/-- 'laws.FnExactLineTable': WHATEVER THE INPUT: true; the input reads as it did. -/
def fnExactLineTableSpec : ChangeSpec := { name := "fnExactLineTable", fn := fun _ => fun
  | [d1, d2] => { results := [.lit (.bool true)], args := [d1, d2] }
  | _ => none }
def fnExactLineTableRow : OpenClaim := { program := "ytffcgblionlhhaa", sum := "2d5ab8b4ec35e75ddb1a3a2839ddca00a22937d016ae4624553b4456dbc50abd", func := "loop.example/g00900/laws.FnExactLineTable", spec := "fnExactLineTable", inPlace := ["internal/abi.NoEscape"], recurses := true, apart := false }
def FnExactLineTableSaid : Prop := fnExactLineTableRow.holds Try.pinned (OpenSpec.ofChange fnExactLineTableSpec)

/-- ITS FALSE NEIGHBOUR: 'it returns false'. Refute it at one input. -/
def fnExactLineTableWrong : ChangeSpec := { name := "fnExactLineTable", fn := fun _ => fun
  | [d1, d2] => { results := [.lit (.bool false)], args := [d1, d2] }
  | _ => none }
def FnExactLineTableWrongFalsely : Prop := fnExactLineTableRow.holds Try.pinned (OpenSpec.ofChange fnExactLineTableWrong)

/-- 'laws.FnExactTripText': WHATEVER THE INPUT: true; the input reads as it did. -/
def fnExactTripTextSpec : ChangeSpec := { name := "fnExactTripText", fn := fun _ => fun
  | [d1, d2] => { results := [.lit (.bool true)], args := [d1, d2] }
  | _ => none }
def fnExactTripTextRow : OpenClaim := { program := "ytffcgblionlhhaa", sum := "2d5ab8b4ec35e75ddb1a3a2839ddca00a22937d016ae4624553b4456dbc50abd", func := "loop.example/g00900/laws.FnExactTripText", spec := "fnExactTripText", inPlace := ["internal/abi.NoEscape", "internal/bytealg.MakeNoZero"], unfollowed := true, recurses := true, apart := false }
def FnExactTripTextSaid : Prop := fnExactTripTextRow.holds Try.pinned (OpenSpec.ofChange fnExactTripTextSpec)

/-- ITS FALSE NEIGHBOUR: 'it returns false'. Refute it at one input. -/
def fnExactTripTextWrong : ChangeSpec := { name := "fnExactTripText", fn := fun _ => fun
  | [d1, d2] => { results := [.lit (.bool false)], args := [d1, d2] }
  | _ => none }
def FnExactTripTextWrongFalsely : Prop := fnExactTripTextRow.holds Try.pinned (OpenSpec.ofChange fnExactTripTextWrong)

/- THE SECOND FORM. 'bulk': how many values and letters a reading holds, each counted each time it is reached (what is shared counts as often as it is met; a slice's spare places count too). A statement '..UptoSaid' is the law's where the arguments, and the package variables that the reading takes, are together of bulk at most 1048576: NARROWER than '..Said'. Prove '..Said' where nothing that the law and all that it calls make is longer than what came in: it says more and counts as full. Else prove '..UptoSaid'. A law counts once. -/
mutual
def uptoBulk {H : Type} : DataW H → Nat
  | .lit (.string bytes) => bytes.length + 1
  | .lit _ => 1
  | .nil => 1
  | .ptr d => uptoBulk d + 1
  | .slice elems spare => uptoBulkAll elems + uptoBulkAll spare + 1
  | .agg parts => uptoBulkAll parts + 1
  | .iface _ d => uptoBulk d + 1
  | .map entries => uptoBulkEntries entries + 1
  | .held _ => 1
def uptoBulkAll {H : Type} : List (DataW H) → Nat
  | [] => 0
  | d :: r => uptoBulk d + uptoBulkAll r
def uptoBulkEntries {H : Type} : List (Lit × DataW H) → Nat
  | [] => 0
  | x :: r => uptoBulkEntry x + uptoBulkEntries r
def uptoBulkEntry {H : Type} : Lit × DataW H → Nat
  | (.string bytes, d) => bytes.length + uptoBulk d + 1
  | (_, d) => uptoBulk d + 1
 end
def uptoSmall : (H : Type) → List (DataW H) → Bool := fun _ ds => decide (uptoBulkAll ds ≤ 1048576)
def OpenSpec.upto (s : _root_.Go.ChangeSpec) : _root_.Go.OpenSpec := { _root_.Go.OpenSpec.ofChange s with cond := some uptoSmall }

/-- 'laws.FnSplitJoin', WHERE WHAT IT READS IS OF BULK AT MOST 1048576: true; the input reads as it did. -/
def fnSplitJoinUptoRow : OpenClaim := { program := "ytffcgblionlhhaa", sum := "2d5ab8b4ec35e75ddb1a3a2839ddca00a22937d016ae4624553b4456dbc50abd", func := "loop.example/g00900/laws.FnSplitJoin", spec := "fnSplitJoin", inPlace := ["internal/bytealg.IndexByteString", "internal/bytealg.IndexString", "internal/abi.NoEscape", "internal/bytealg.MakeNoZero"], unfollowed := true, recurses := true, named := ["internal/bytealg.MaxLen"], apart := false, narrowed := true }
def FnSplitJoinUptoSaid : Prop := fnSplitJoinUptoRow.holds Try.pinned (OpenSpec.upto fnSplitJoinSpec)

/-- 'laws.FnLines', WHERE WHAT IT READS IS OF BULK AT MOST 1048576: true; the input reads as it did. -/
def fnLinesUptoRow : OpenClaim := { program := "ytffcgblionlhhaa", sum := "2d5ab8b4ec35e75ddb1a3a2839ddca00a22937d016ae4624553b4456dbc50abd", func := "loop.example/g00900/laws.FnLines", spec := "fnLines", unfollowed := true, recurses := true, apart := false, narrowed := true }
def FnLinesUptoSaid : Prop := fnLinesUptoRow.holds Try.pinned (OpenSpec.upto fnLinesSpec)

/-- 'laws.FnReach', WHERE WHAT IT READS IS OF BULK AT MOST 1048576: true; the input reads as it did. -/
def fnReachUptoRow : OpenClaim := { program := "ytffcgblionlhhaa", sum := "2d5ab8b4ec35e75ddb1a3a2839ddca00a22937d016ae4624553b4456dbc50abd", func := "loop.example/g00900/laws.FnReach", spec := "fnReach", unfollowed := true, recurses := true, apart := false, narrowed := true }
def FnReachUptoSaid : Prop := fnReachUptoRow.holds Try.pinned (OpenSpec.upto fnReachSpec)

/-- 'laws.FnExactReverseLine', WHERE WHAT IT READS IS OF BULK AT MOST 1048576: true; the input reads as it did. -/
def fnExactReverseLineUptoRow : OpenClaim := { program := "ytffcgblionlhhaa", sum := "2d5ab8b4ec35e75ddb1a3a2839ddca00a22937d016ae4624553b4456dbc50abd", func := "loop.example/g00900/laws.FnExactReverseLine", spec := "fnExactReverseLine", apart := false, narrowed := true }
def FnExactReverseLineUptoSaid : Prop := fnExactReverseLineUptoRow.holds Try.pinned (OpenSpec.upto fnExactReverseLineSpec)

/-- 'laws.FnExactReachableStops', WHERE WHAT IT READS IS OF BULK AT MOST 1048576: true; the input reads as it did. -/
def fnExactReachableStopsUptoRow : OpenClaim := { program := "ytffcgblionlhhaa", sum := "2d5ab8b4ec35e75ddb1a3a2839ddca00a22937d016ae4624553b4456dbc50abd", func := "loop.example/g00900/laws.FnExactReachableStops", spec := "fnExactReachableStops", unfollowed := true, recurses := true, apart := false, narrowed := true }
def FnExactReachableStopsUptoSaid : Prop := fnExactReachableStopsUptoRow.holds Try.pinned (OpenSpec.upto fnExactReachableStopsSpec)

/-- 'laws.FnExactFewestLines', WHERE WHAT IT READS IS OF BULK AT MOST 1048576: true; the input reads as it did. -/
def fnExactFewestLinesUptoRow : OpenClaim := { program := "ytffcgblionlhhaa", sum := "2d5ab8b4ec35e75ddb1a3a2839ddca00a22937d016ae4624553b4456dbc50abd", func := "loop.example/g00900/laws.FnExactFewestLines", spec := "fnExactFewestLines", apart := false, narrowed := true }
def FnExactFewestLinesUptoSaid : Prop := fnExactFewestLinesUptoRow.holds Try.pinned (OpenSpec.upto fnExactFewestLinesSpec)

/-- 'laws.FnServiceDays', WHERE WHAT IT READS IS OF BULK AT MOST 1048576: true; the input reads as it did. -/
def fnServiceDaysUptoRow : OpenClaim := { program := "ytffcgblionlhhaa", sum := "2d5ab8b4ec35e75ddb1a3a2839ddca00a22937d016ae4624553b4456dbc50abd", func := "loop.example/g00900/laws.FnServiceDays", spec := "fnServiceDays", unfollowed := true, recurses := true, apart := false, narrowed := true }
def FnServiceDaysUptoSaid : Prop := fnServiceDaysUptoRow.holds Try.pinned (OpenSpec.upto fnServiceDaysSpec)

/-- 'laws.FnExactAddTrip', WHERE WHAT IT READS IS OF BULK AT MOST 1048576: true; the input reads as it did. -/
def fnExactAddTripUptoRow : OpenClaim := { program := "ytffcgblionlhhaa", sum := "2d5ab8b4ec35e75ddb1a3a2839ddca00a22937d016ae4624553b4456dbc50abd", func := "loop.example/g00900/laws.FnExactAddTrip", spec := "fnExactAddTrip", inPlace := ["slices.overlaps[loop.example/g00900/impl.Trip]"], unfollowed := true, recurses := true, apart := false, narrowed := true }
def FnExactAddTripUptoSaid : Prop := fnExactAddTripUptoRow.holds Try.pinned (OpenSpec.upto fnExactAddTripSpec)

/-- 'laws.FnExactDeparturesAt', WHERE WHAT IT READS IS OF BULK AT MOST 1048576: true; the input reads as it did. -/
def fnExactDeparturesAtUptoRow : OpenClaim := { program := "ytffcgblionlhhaa", sum := "2d5ab8b4ec35e75ddb1a3a2839ddca00a22937d016ae4624553b4456dbc50abd", func := "loop.example/g00900/laws.FnExactDeparturesAt", spec := "fnExactDeparturesAt", unfollowed := true, recurses := true, apart := false, narrowed := true }
def FnExactDeparturesAtUptoSaid : Prop := fnExactDeparturesAtUptoRow.holds Try.pinned (OpenSpec.upto fnExactDeparturesAtSpec)

/-- 'laws.FnTrips', WHERE WHAT IT READS IS OF BULK AT MOST 1048576: true; the input reads as it did. -/
def fnTripsUptoRow : OpenClaim := { program := "ytffcgblionlhhaa", sum := "2d5ab8b4ec35e75ddb1a3a2839ddca00a22937d016ae4624553b4456dbc50abd", func := "loop.example/g00900/laws.FnTrips", spec := "fnTrips", inPlace := ["slices.overlaps[loop.example/g00900/impl.Trip]"], unfollowed := true, recurses := true, apart := false, narrowed := true }
def FnTripsUptoSaid : Prop := fnTripsUptoRow.holds Try.pinned (OpenSpec.upto fnTripsSpec)

/-- 'laws.FnDepartures', WHERE WHAT IT READS IS OF BULK AT MOST 1048576: true; the input reads as it did. -/
def fnDeparturesUptoRow : OpenClaim := { program := "ytffcgblionlhhaa", sum := "2d5ab8b4ec35e75ddb1a3a2839ddca00a22937d016ae4624553b4456dbc50abd", func := "loop.example/g00900/laws.FnDepartures", spec := "fnDepartures", unfollowed := true, recurses := true, apart := false, narrowed := true }
def FnDeparturesUptoSaid : Prop := fnDeparturesUptoRow.holds Try.pinned (OpenSpec.upto fnDeparturesSpec)

/-- 'laws.FnExactLineTable', WHERE WHAT IT READS IS OF BULK AT MOST 1048576: true; the input reads as it did. -/
def fnExactLineTableUptoRow : OpenClaim := { program := "ytffcgblionlhhaa", sum := "2d5ab8b4ec35e75ddb1a3a2839ddca00a22937d016ae4624553b4456dbc50abd", func := "loop.example/g00900/laws.FnExactLineTable", spec := "fnExactLineTable", inPlace := ["internal/abi.NoEscape"], recurses := true, apart := false, narrowed := true }
def FnExactLineTableUptoSaid : Prop := fnExactLineTableUptoRow.holds Try.pinned (OpenSpec.upto fnExactLineTableSpec)

/-- 'laws.FnExactTripText', WHERE WHAT IT READS IS OF BULK AT MOST 1048576: true; the input reads as it did. -/
def fnExactTripTextUptoRow : OpenClaim := { program := "ytffcgblionlhhaa", sum := "2d5ab8b4ec35e75ddb1a3a2839ddca00a22937d016ae4624553b4456dbc50abd", func := "loop.example/g00900/laws.FnExactTripText", spec := "fnExactTripText", inPlace := ["internal/abi.NoEscape", "internal/bytealg.MakeNoZero"], unfollowed := true, recurses := true, apart := false, narrowed := true }
def FnExactTripTextUptoSaid : Prop := fnExactTripTextUptoRow.holds Try.pinned (OpenSpec.upto fnExactTripTextSpec)

end Rows
end Go.Proofs.Ytffcgblionlhhaa
