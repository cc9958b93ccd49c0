/-
  No cell of these rows narrows 'for every input' (looked for: loops, veiled, ifaces, maps, wideKeys, modest, calm, conditions, laid).
  DERIVED. THE GIVEN ROWS OF THIS SEAT. 15 by the template 'for every input the law returns true; each argument reads behind the call as it read before'; 0 by the template 'total and deterministic' (their statements: YtbbcjponeiphaaaTotals.lean).
  GIVEN WITH THE SEED: the statements are not yours to turn. If you find one false, say at which input.
  Laid BY PROGRAM, IN A SANDBOX (cutbox-rows.mjs): the forced cells as the released guide's own fill.sh prints them over the translation fe2926a837f966fe… (all of the seat's roots in one cut). By AI agents, Wed Nov 11 2026. No macro, syntax, notation, axiom, sorry.
-/
import Derived.Test.YtbbcjponeiphaaaChecked
import GoSem.Claim
import GoSem.ClaimJoined
import GoSem.ClaimMapViews
import Derived.JoinedTies
import Derived.KernelRfl
namespace Go.Proofs.Ytbbcjponeiphaaa
/- THE CELL 'sum', in the pinned program and in every row, IS THE sha256 OF THE DUMP (.gsa) THAT YtbbcjponeiphaaaProg.lean LOADS. Nothing in Lean hashes anything: it is a label: what it is worth is what the hold of that sum in a sandbox is worth. -/
noncomputable def Try.pinned : Pinned := { name := "ytbbcjponeiphaaa", sum := "fe2926a837f966feecbbf51d7a2021e593127bbaec1cee05262681a6298c0ac8", checked := Try.checked }
namespace Rows
def none {H : Type} : Left H := { results := [], args := [] }

/-- 'laws.FnExactIsValidCalendar': WHATEVER THE INPUT: true; the input reads as it did. -/
def fnExactIsValidCalendarSpec : ChangeSpec := { name := "fnExactIsValidCalendar", fn := fun _ => fun
  | [d] => { results := [.lit (.bool true)], args := [d] }
  | _ => none }
def fnExactIsValidCalendarRow : OpenClaim := { program := "ytbbcjponeiphaaa", sum := "fe2926a837f966feecbbf51d7a2021e593127bbaec1cee05262681a6298c0ac8", func := "loop.example/g00900/laws.FnExactIsValidCalendar", spec := "fnExactIsValidCalendar", unfollowed := true, recurses := true, apart := false }
def FnExactIsValidCalendarSaid : Prop := fnExactIsValidCalendarRow.holds Try.pinned (OpenSpec.ofChange fnExactIsValidCalendarSpec)

/-- ITS FALSE NEIGHBOUR: 'it returns false'. Refute it at one input. -/
def fnExactIsValidCalendarWrong : ChangeSpec := { name := "fnExactIsValidCalendar", fn := fun _ => fun
  | [d] => { results := [.lit (.bool false)], args := [d] }
  | _ => none }
def FnExactIsValidCalendarWrongFalsely : Prop := fnExactIsValidCalendarRow.holds Try.pinned (OpenSpec.ofChange fnExactIsValidCalendarWrong)

/-- 'laws.FnExactRunsOn': WHATEVER THE INPUT: true; the input reads as it did. -/
def fnExactRunsOnSpec : ChangeSpec := { name := "fnExactRunsOn", fn := fun _ => fun
  | [d1, d2] => { results := [.lit (.bool true)], args := [d1, d2] }
  | _ => none }
def fnExactRunsOnRow : OpenClaim := { program := "ytbbcjponeiphaaa", sum := "fe2926a837f966feecbbf51d7a2021e593127bbaec1cee05262681a6298c0ac8", func := "loop.example/g00900/laws.FnExactRunsOn", spec := "fnExactRunsOn", unfollowed := true, recurses := true, apart := false }
def FnExactRunsOnSaid : Prop := fnExactRunsOnRow.holds Try.pinned (OpenSpec.ofChange fnExactRunsOnSpec)

/-- ITS FALSE NEIGHBOUR: 'it returns false'. Refute it at one input. -/
def fnExactRunsOnWrong : ChangeSpec := { name := "fnExactRunsOn", fn := fun _ => fun
  | [d1, d2] => { results := [.lit (.bool false)], args := [d1, d2] }
  | _ => none }
def FnExactRunsOnWrongFalsely : Prop := fnExactRunsOnRow.holds Try.pinned (OpenSpec.ofChange fnExactRunsOnWrong)

/-- 'laws.FnExactCountDays': WHATEVER THE INPUT: true; the input reads as it did. -/
def fnExactCountDaysSpec : ChangeSpec := { name := "fnExactCountDays", fn := fun _ => fun
  | [d] => { results := [.lit (.bool true)], args := [d] }
  | _ => none }
def fnExactCountDaysRow : OpenClaim := { program := "ytbbcjponeiphaaa", sum := "fe2926a837f966feecbbf51d7a2021e593127bbaec1cee05262681a6298c0ac8", func := "loop.example/g00900/laws.FnExactCountDays", spec := "fnExactCountDays", unfollowed := true, recurses := true, apart := false }
def FnExactCountDaysSaid : Prop := fnExactCountDaysRow.holds Try.pinned (OpenSpec.ofChange fnExactCountDaysSpec)

/-- ITS FALSE NEIGHBOUR: 'it returns false'. Refute it at one input. -/
def fnExactCountDaysWrong : ChangeSpec := { name := "fnExactCountDays", fn := fun _ => fun
  | [d] => { results := [.lit (.bool false)], args := [d] }
  | _ => none }
def FnExactCountDaysWrongFalsely : Prop := fnExactCountDaysRow.holds Try.pinned (OpenSpec.ofChange fnExactCountDaysWrong)

/-- 'laws.FnExactNextRun': WHATEVER THE INPUT: true; the input reads as it did. -/
def fnExactNextRunSpec : ChangeSpec := { name := "fnExactNextRun", fn := fun _ => fun
  | [d1, d2] => { results := [.lit (.bool true)], args := [d1, d2] }
  | _ => none }
def fnExactNextRunRow : OpenClaim := { program := "ytbbcjponeiphaaa", sum := "fe2926a837f966feecbbf51d7a2021e593127bbaec1cee05262681a6298c0ac8", func := "loop.example/g00900/laws.FnExactNextRun", spec := "fnExactNextRun", unfollowed := true, recurses := true, apart := false }
def FnExactNextRunSaid : Prop := fnExactNextRunRow.holds Try.pinned (OpenSpec.ofChange fnExactNextRunSpec)

/-- ITS FALSE NEIGHBOUR: 'it returns false'. Refute it at one input. -/
def fnExactNextRunWrong : ChangeSpec := { name := "fnExactNextRun", fn := fun _ => fun
  | [d1, d2] => { results := [.lit (.bool false)], args := [d1, d2] }
  | _ => none }
def FnExactNextRunWrongFalsely : Prop := fnExactNextRunRow.holds Try.pinned (OpenSpec.ofChange fnExactNextRunWrong)

/-- 'laws.FnExactExceptDay': WHATEVER THE INPUT: true; the input reads as it did. -/
def fnExactExceptDaySpec : ChangeSpec := { name := "fnExactExceptDay", fn := fun _ => fun
  | [d1, d2, d3] => { results := [.lit (.bool true)], args := [d1, d2, d3] }
  | _ => none }
def fnExactExceptDayRow : OpenClaim := { program := "ytbbcjponeiphaaa", sum := "fe2926a837f966feecbbf51d7a2021e593127bbaec1cee05262681a6298c0ac8", func := "loop.example/g00900/laws.FnExactExceptDay", spec := "fnExactExceptDay", inPlace := ["slices.overlaps[int]"], unfollowed := true, recurses := true, apart := false }
def FnExactExceptDaySaid : Prop := fnExactExceptDayRow.holds Try.pinned (OpenSpec.ofChange fnExactExceptDaySpec)

/-- ITS FALSE NEIGHBOUR: 'it returns false'. Refute it at one input. -/
def fnExactExceptDayWrong : ChangeSpec := { name := "fnExactExceptDay", fn := fun _ => fun
  | [d1, d2, d3] => { results := [.lit (.bool false)], args := [d1, d2, d3] }
  | _ => none }
def FnExactExceptDayWrongFalsely : Prop := fnExactExceptDayRow.holds Try.pinned (OpenSpec.ofChange fnExactExceptDayWrong)

/-- 'laws.FnExactCommonDays': WHATEVER THE INPUT: true; the input reads as it did. -/
def fnExactCommonDaysSpec : ChangeSpec := { name := "fnExactCommonDays", fn := fun _ => fun
  | [d1, d2] => { results := [.lit (.bool true)], args := [d1, d2] }
  | _ => none }
def fnExactCommonDaysRow : OpenClaim := { program := "ytbbcjponeiphaaa", sum := "fe2926a837f966feecbbf51d7a2021e593127bbaec1cee05262681a6298c0ac8", func := "loop.example/g00900/laws.FnExactCommonDays", spec := "fnExactCommonDays", unfollowed := true, recurses := true, apart := false }
def FnExactCommonDaysSaid : Prop := fnExactCommonDaysRow.holds Try.pinned (OpenSpec.ofChange fnExactCommonDaysSpec)

/-- ITS FALSE NEIGHBOUR: 'it returns false'. Refute it at one input. -/
def fnExactCommonDaysWrong : ChangeSpec := { name := "fnExactCommonDays", fn := fun _ => fun
  | [d1, d2] => { results := [.lit (.bool false)], args := [d1, d2] }
  | _ => none }
def FnExactCommonDaysWrongFalsely : Prop := fnExactCommonDaysRow.holds Try.pinned (OpenSpec.ofChange fnExactCommonDaysWrong)

/-- 'laws.FnExactFitCalendar': WHATEVER THE INPUT: true; the input reads as it did. -/
def fnExactFitCalendarSpec : ChangeSpec := { name := "fnExactFitCalendar", fn := fun _ => fun
  | [d1, d2, d3] => { results := [.lit (.bool true)], args := [d1, d2, d3] }
  | _ => none }
def fnExactFitCalendarRow : OpenClaim := { program := "ytbbcjponeiphaaa", sum := "fe2926a837f966feecbbf51d7a2021e593127bbaec1cee05262681a6298c0ac8", func := "loop.example/g00900/laws.FnExactFitCalendar", spec := "fnExactFitCalendar", unfollowed := true, recurses := true, apart := false }
def FnExactFitCalendarSaid : Prop := fnExactFitCalendarRow.holds Try.pinned (OpenSpec.ofChange fnExactFitCalendarSpec)

/-- ITS FALSE NEIGHBOUR: 'it returns false'. Refute it at one input. -/
def fnExactFitCalendarWrong : ChangeSpec := { name := "fnExactFitCalendar", fn := fun _ => fun
  | [d1, d2, d3] => { results := [.lit (.bool false)], args := [d1, d2, d3] }
  | _ => none }
def FnExactFitCalendarWrongFalsely : Prop := fnExactFitCalendarRow.holds Try.pinned (OpenSpec.ofChange fnExactFitCalendarWrong)

/-- 'laws.FnServiceDays': WHATEVER THE INPUT: true; the input reads as it did. -/
def fnServiceDaysSpec : ChangeSpec := { name := "fnServiceDays", fn := fun _ => fun
  | [d] => { results := [.lit (.bool true)], args := [d] }
  | _ => none }
def fnServiceDaysRow : OpenClaim := { program := "ytbbcjponeiphaaa", sum := "fe2926a837f966feecbbf51d7a2021e593127bbaec1cee05262681a6298c0ac8", func := "loop.example/g00900/laws.FnServiceDays", spec := "fnServiceDays", unfollowed := true, recurses := true, apart := false }
def FnServiceDaysSaid : Prop := fnServiceDaysRow.holds Try.pinned (OpenSpec.ofChange fnServiceDaysSpec)

/-- ITS FALSE NEIGHBOUR: 'it returns false'. Refute it at one input. -/
def fnServiceDaysWrong : ChangeSpec := { name := "fnServiceDays", fn := fun _ => fun
  | [d] => { results := [.lit (.bool false)], args := [d] }
  | _ => none }
def FnServiceDaysWrongFalsely : Prop := fnServiceDaysRow.holds Try.pinned (OpenSpec.ofChange fnServiceDaysWrong)

/-- 'laws.FnExactReverseLine': WHATEVER THE INPUT: true; the input reads as it did. -/
def fnExactReverseLineSpec : ChangeSpec := { name := "fnExactReverseLine", fn := fun _ => fun
  | [d1, d2, d3] => { results := [.lit (.bool true)], args := [d1, d2, d3] }
  | _ => none }
def fnExactReverseLineRow : OpenClaim := { program := "ytbbcjponeiphaaa", sum := "fe2926a837f966feecbbf51d7a2021e593127bbaec1cee05262681a6298c0ac8", func := "loop.example/g00900/laws.FnExactReverseLine", spec := "fnExactReverseLine", apart := false }
def FnExactReverseLineSaid : Prop := fnExactReverseLineRow.holds Try.pinned (OpenSpec.ofChange fnExactReverseLineSpec)

/-- ITS FALSE NEIGHBOUR: 'it returns false'. Refute it at one input. -/
def fnExactReverseLineWrong : ChangeSpec := { name := "fnExactReverseLine", fn := fun _ => fun
  | [d1, d2, d3] => { results := [.lit (.bool false)], args := [d1, d2, d3] }
  | _ => none }
def FnExactReverseLineWrongFalsely : Prop := fnExactReverseLineRow.holds Try.pinned (OpenSpec.ofChange fnExactReverseLineWrong)

/-- 'laws.FnExactReachableStops': WHATEVER THE INPUT: true; the input reads as it did. -/
def fnExactReachableStopsSpec : ChangeSpec := { name := "fnExactReachableStops", fn := fun _ => fun
  | [d1, d2] => { results := [.lit (.bool true)], args := [d1, d2] }
  | _ => none }
def fnExactReachableStopsRow : OpenClaim := { program := "ytbbcjponeiphaaa", sum := "fe2926a837f966feecbbf51d7a2021e593127bbaec1cee05262681a6298c0ac8", func := "loop.example/g00900/laws.FnExactReachableStops", spec := "fnExactReachableStops", unfollowed := true, recurses := true, apart := false }
def FnExactReachableStopsSaid : Prop := fnExactReachableStopsRow.holds Try.pinned (OpenSpec.ofChange fnExactReachableStopsSpec)

/-- ITS FALSE NEIGHBOUR: 'it returns false'. Refute it at one input. -/
def fnExactReachableStopsWrong : ChangeSpec := { name := "fnExactReachableStops", fn := fun _ => fun
  | [d1, d2] => { results := [.lit (.bool false)], args := [d1, d2] }
  | _ => none }
def FnExactReachableStopsWrongFalsely : Prop := fnExactReachableStopsRow.holds Try.pinned (OpenSpec.ofChange fnExactReachableStopsWrong)

/-- 'laws.FnExactFewestLines': WHATEVER THE INPUT: true; the input reads as it did. -/
def fnExactFewestLinesSpec : ChangeSpec := { name := "fnExactFewestLines", fn := fun _ => fun
  | [d1, d2, d3] => { results := [.lit (.bool true)], args := [d1, d2, d3] }
  | _ => none }
def fnExactFewestLinesRow : OpenClaim := { program := "ytbbcjponeiphaaa", sum := "fe2926a837f966feecbbf51d7a2021e593127bbaec1cee05262681a6298c0ac8", func := "loop.example/g00900/laws.FnExactFewestLines", spec := "fnExactFewestLines", apart := false }
def FnExactFewestLinesSaid : Prop := fnExactFewestLinesRow.holds Try.pinned (OpenSpec.ofChange fnExactFewestLinesSpec)

/-- ITS FALSE NEIGHBOUR: 'it returns false'. Refute it at one input. -/
def fnExactFewestLinesWrong : ChangeSpec := { name := "fnExactFewestLines", fn := fun _ => fun
  | [d1, d2, d3] => { results := [.lit (.bool false)], args := [d1, d2, d3] }
  | _ => none }
def FnExactFewestLinesWrongFalsely : Prop := fnExactFewestLinesRow.holds Try.pinned (OpenSpec.ofChange fnExactFewestLinesWrong)

/-- 'laws.FnLines': WHATEVER THE INPUT: true; the input reads as it did. -/
def fnLinesSpec : ChangeSpec := { name := "fnLines", fn := fun _ => fun
  | [d] => { results := [.lit (.bool true)], args := [d] }
  | _ => none }
def fnLinesRow : OpenClaim := { program := "ytbbcjponeiphaaa", sum := "fe2926a837f966feecbbf51d7a2021e593127bbaec1cee05262681a6298c0ac8", func := "loop.example/g00900/laws.FnLines", spec := "fnLines", unfollowed := true, recurses := true, apart := false }
def FnLinesSaid : Prop := fnLinesRow.holds Try.pinned (OpenSpec.ofChange fnLinesSpec)

/-- ITS FALSE NEIGHBOUR: 'it returns false'. Refute it at one input. -/
def fnLinesWrong : ChangeSpec := { name := "fnLines", fn := fun _ => fun
  | [d] => { results := [.lit (.bool false)], args := [d] }
  | _ => none }
def FnLinesWrongFalsely : Prop := fnLinesRow.holds Try.pinned (OpenSpec.ofChange fnLinesWrong)

/-- 'laws.FnReach': WHATEVER THE INPUT: true; the input reads as it did. -/
def fnReachSpec : ChangeSpec := { name := "fnReach", fn := fun _ => fun
  | [d] => { results := [.lit (.bool true)], args := [d] }
  | _ => none }
def fnReachRow : OpenClaim := { program := "ytbbcjponeiphaaa", sum := "fe2926a837f966feecbbf51d7a2021e593127bbaec1cee05262681a6298c0ac8", func := "loop.example/g00900/laws.FnReach", spec := "fnReach", unfollowed := true, recurses := true, apart := false }
def FnReachSaid : Prop := fnReachRow.holds Try.pinned (OpenSpec.ofChange fnReachSpec)

/-- ITS FALSE NEIGHBOUR: 'it returns false'. Refute it at one input. -/
def fnReachWrong : ChangeSpec := { name := "fnReach", fn := fun _ => fun
  | [d] => { results := [.lit (.bool false)], args := [d] }
  | _ => none }
def FnReachWrongFalsely : Prop := fnReachRow.holds Try.pinned (OpenSpec.ofChange fnReachWrong)

/-- 'laws.FnExactSplitString': WHATEVER THE INPUT: true; the input reads as it did. -/
def fnExactSplitStringSpec : ChangeSpec := { name := "fnExactSplitString", fn := fun _ => fun
  | [d1, d2] => { results := [.lit (.bool true)], args := [d1, d2] }
  | _ => none }
def fnExactSplitStringRow : OpenClaim := { program := "ytbbcjponeiphaaa", sum := "fe2926a837f966feecbbf51d7a2021e593127bbaec1cee05262681a6298c0ac8", func := "loop.example/g00900/laws.FnExactSplitString", spec := "fnExactSplitString", unfollowed := true, recurses := true, apart := false }
def FnExactSplitStringSaid : Prop := fnExactSplitStringRow.holds Try.pinned (OpenSpec.ofChange fnExactSplitStringSpec)

/-- ITS FALSE NEIGHBOUR: 'it returns false'. Refute it at one input. -/
def fnExactSplitStringWrong : ChangeSpec := { name := "fnExactSplitString", fn := fun _ => fun
  | [d1, d2] => { results := [.lit (.bool false)], args := [d1, d2] }
  | _ => none }
def FnExactSplitStringWrongFalsely : Prop := fnExactSplitStringRow.holds Try.pinned (OpenSpec.ofChange fnExactSplitStringWrong)

/-- 'laws.FnSplitJoin': WHATEVER THE INPUT: true; the input reads as it did. -/
def fnSplitJoinSpec : ChangeSpec := { name := "fnSplitJoin", fn := fun _ => fun
  | [d] => { results := [.lit (.bool true)], args := [d] }
  | _ => none }
def fnSplitJoinRow : OpenClaim := { program := "ytbbcjponeiphaaa", sum := "fe2926a837f966feecbbf51d7a2021e593127bbaec1cee05262681a6298c0ac8", func := "loop.example/g00900/laws.FnSplitJoin", spec := "fnSplitJoin", inPlace := ["internal/bytealg.IndexByteString", "internal/bytealg.IndexString", "internal/abi.NoEscape", "internal/bytealg.MakeNoZero"], unfollowed := true, recurses := true, named := ["internal/bytealg.MaxLen"], apart := false }
def FnSplitJoinSaid : Prop := fnSplitJoinRow.holds Try.pinned (OpenSpec.ofChange fnSplitJoinSpec)

/-- ITS FALSE NEIGHBOUR: 'it returns false'. Refute it at one input. -/
def fnSplitJoinWrong : ChangeSpec := { name := "fnSplitJoin", fn := fun _ => fun
  | [d] => { results := [.lit (.bool false)], args := [d] }
  | _ => none }
def FnSplitJoinWrongFalsely : Prop := fnSplitJoinRow.holds Try.pinned (OpenSpec.ofChange fnSplitJoinWrong)

/- THE SECOND FORM. 'bulk': how many values and letters a reading holds, each counted each time it is reached (what is shared counts as often as it is met; a slice's spare places count too). A statement '..UptoSaid' is the law's where the arguments, and the package variables that the reading takes, are together of bulk at most 1048576: NARROWER than '..Said'. Prove '..Said' where nothing that the law and all that it calls make is longer than what came in: it says more and counts as full. Else prove '..UptoSaid'. A law counts once. -/
mutual
def uptoBulk {H : Type} : DataW H → Nat
  | .lit (.string bytes) => bytes.length + 1
  | .lit _ => 1
  | .nil => 1
  | .ptr d => uptoBulk d + 1
  | .slice elems spare => uptoBulkAll elems + uptoBulkAll spare + 1
  | .agg parts => uptoBulkAll parts + 1
  | .iface _ d => uptoBulk d + 1
  | .map entries => uptoBulkEntries entries + 1
  | .held _ => 1
def uptoBulkAll {H : Type} : List (DataW H) → Nat
  | [] => 0
  | d :: r => uptoBulk d + uptoBulkAll r
def uptoBulkEntries {H : Type} : List (Lit × DataW H) → Nat
  | [] => 0
  | x :: r => uptoBulkEntry x + uptoBulkEntries r
def uptoBulkEntry {H : Type} : Lit × DataW H → Nat
  | (.string bytes, d) => bytes.length + uptoBulk d + 1
  | (_, d) => uptoBulk d + 1
 end
def uptoSmall : (H : Type) → List (DataW H) → Bool := fun _ ds => decide (uptoBulkAll ds ≤ 1048576)
def OpenSpec.upto (s : _root_.Go.ChangeSpec) : _root_.Go.OpenSpec := { _root_.Go.OpenSpec.ofChange s with cond := some uptoSmall }

/-- 'laws.FnExactIsValidCalendar', WHERE WHAT IT READS IS OF BULK AT MOST 1048576: true; the input reads as it did. -/
def fnExactIsValidCalendarUptoRow : OpenClaim := { program := "ytbbcjponeiphaaa", sum := "fe2926a837f966feecbbf51d7a2021e593127bbaec1cee05262681a6298c0ac8", func := "loop.example/g00900/laws.FnExactIsValidCalendar", spec := "fnExactIsValidCalendar", unfollowed := true, recurses := true, apart := false, narrowed := true }
def FnExactIsValidCalendarUptoSaid : Prop := fnExactIsValidCalendarUptoRow.holds Try.pinned (OpenSpec.upto fnExactIsValidCalendarSpec)

/-- 'laws.FnExactRunsOn', WHERE WHAT IT READS IS OF BULK AT MOST 1048576: true; the input reads as it did. -/
def fnExactRunsOnUptoRow : OpenClaim := { program := "ytbbcjponeiphaaa", sum := "fe2926a837f966feecbbf51d7a2021e593127bbaec1cee05262681a6298c0ac8", func := "loop.example/g00900/laws.FnExactRunsOn", spec := "fnExactRunsOn", unfollowed := true, recurses := true, apart := false, narrowed := true }
def FnExactRunsOnUptoSaid : Prop := fnExactRunsOnUptoRow.holds Try.pinned (OpenSpec.upto fnExactRunsOnSpec)

/-- 'laws.FnExactCountDays', WHERE WHAT IT READS IS OF BULK AT MOST 1048576: true; the input reads as it did. -/
def fnExactCountDaysUptoRow : OpenClaim := { program := "ytbbcjponeiphaaa", sum := "fe2926a837f966feecbbf51d7a2021e593127bbaec1cee05262681a6298c0ac8", func := "loop.example/g00900/laws.FnExactCountDays", spec := "fnExactCountDays", unfollowed := true, recurses := true, apart := false, narrowed := true }
def FnExactCountDaysUptoSaid : Prop := fnExactCountDaysUptoRow.holds Try.pinned (OpenSpec.upto fnExactCountDaysSpec)

/-- 'laws.FnExactNextRun', WHERE WHAT IT READS IS OF BULK AT MOST 1048576: true; the input reads as it did. -/
def fnExactNextRunUptoRow : OpenClaim := { program := "ytbbcjponeiphaaa", sum := "fe2926a837f966feecbbf51d7a2021e593127bbaec1cee05262681a6298c0ac8", func := "loop.example/g00900/laws.FnExactNextRun", spec := "fnExactNextRun", unfollowed := true, recurses := true, apart := false, narrowed := true }
def FnExactNextRunUptoSaid : Prop := fnExactNextRunUptoRow.holds Try.pinned (OpenSpec.upto fnExactNextRunSpec)

/-- 'laws.FnExactExceptDay', WHERE WHAT IT READS IS OF BULK AT MOST 1048576: true; the input reads as it did. -/
def fnExactExceptDayUptoRow : OpenClaim := { program := "ytbbcjponeiphaaa", sum := "fe2926a837f966feecbbf51d7a2021e593127bbaec1cee05262681a6298c0ac8", func := "loop.example/g00900/laws.FnExactExceptDay", spec := "fnExactExceptDay", inPlace := ["slices.overlaps[int]"], unfollowed := true, recurses := true, apart := false, narrowed := true }
def FnExactExceptDayUptoSaid : Prop := fnExactExceptDayUptoRow.holds Try.pinned (OpenSpec.upto fnExactExceptDaySpec)

/-- 'laws.FnExactCommonDays', WHERE WHAT IT READS IS OF BULK AT MOST 1048576: true; the input reads as it did. -/
def fnExactCommonDaysUptoRow : OpenClaim := { program := "ytbbcjponeiphaaa", sum := "fe2926a837f966feecbbf51d7a2021e593127bbaec1cee05262681a6298c0ac8", func := "loop.example/g00900/laws.FnExactCommonDays", spec := "fnExactCommonDays", unfollowed := true, recurses := true, apart := false, narrowed := true }
def FnExactCommonDaysUptoSaid : Prop := fnExactCommonDaysUptoRow.holds Try.pinned (OpenSpec.upto fnExactCommonDaysSpec)

/-- 'laws.FnExactFitCalendar', WHERE WHAT IT READS IS OF BULK AT MOST 1048576: true; the input reads as it did. -/
def fnExactFitCalendarUptoRow : OpenClaim := { program := "ytbbcjponeiphaaa", sum := "fe2926a837f966feecbbf51d7a2021e593127bbaec1cee05262681a6298c0ac8", func := "loop.example/g00900/laws.FnExactFitCalendar", spec := "fnExactFitCalendar", unfollowed := true, recurses := true, apart := false, narrowed := true }
def FnExactFitCalendarUptoSaid : Prop := fnExactFitCalendarUptoRow.holds Try.pinned (OpenSpec.upto fnExactFitCalendarSpec)

/-- 'laws.FnServiceDays', WHERE WHAT IT READS IS OF BULK AT MOST 1048576: true; the input reads as it did. -/
def fnServiceDaysUptoRow : OpenClaim := { program := "ytbbcjponeiphaaa", sum := "fe2926a837f966feecbbf51d7a2021e593127bbaec1cee05262681a6298c0ac8", func := "loop.example/g00900/laws.FnServiceDays", spec := "fnServiceDays", unfollowed := true, recurses := true, apart := false, narrowed := true }
def FnServiceDaysUptoSaid : Prop := fnServiceDaysUptoRow.holds Try.pinned (OpenSpec.upto fnServiceDaysSpec)

/-- 'laws.FnExactReverseLine', WHERE WHAT IT READS IS OF BULK AT MOST 1048576: true; the input reads as it did. -/
def fnExactReverseLineUptoRow : OpenClaim := { program := "ytbbcjponeiphaaa", sum := "fe2926a837f966feecbbf51d7a2021e593127bbaec1cee05262681a6298c0ac8", func := "loop.example/g00900/laws.FnExactReverseLine", spec := "fnExactReverseLine", apart := false, narrowed := true }
def FnExactReverseLineUptoSaid : Prop := fnExactReverseLineUptoRow.holds Try.pinned (OpenSpec.upto fnExactReverseLineSpec)

/-- 'laws.FnExactReachableStops', WHERE WHAT IT READS IS OF BULK AT MOST 1048576: true; the input reads as it did. -/
def fnExactReachableStopsUptoRow : OpenClaim := { program := "ytbbcjponeiphaaa", sum := "fe2926a837f966feecbbf51d7a2021e593127bbaec1cee05262681a6298c0ac8", func := "loop.example/g00900/laws.FnExactReachableStops", spec := "fnExactReachableStops", unfollowed := true, recurses := true, apart := false, narrowed := true }
def FnExactReachableStopsUptoSaid : Prop := fnExactReachableStopsUptoRow.holds Try.pinned (OpenSpec.upto fnExactReachableStopsSpec)

/-- 'laws.FnExactFewestLines', WHERE WHAT IT READS IS OF BULK AT MOST 1048576: true; the input reads as it did. -/
def fnExactFewestLinesUptoRow : OpenClaim := { program := "ytbbcjponeiphaaa", sum := "fe2926a837f966feecbbf51d7a2021e593127bbaec1cee05262681a6298c0ac8", func := "loop.example/g00900/laws.FnExactFewestLines", spec := "fnExactFewestLines", apart := false, narrowed := true }
def FnExactFewestLinesUptoSaid : Prop := fnExactFewestLinesUptoRow.holds Try.pinned (OpenSpec.upto fnExactFewestLinesSpec)

/-- 'laws.FnLines', WHERE WHAT IT READS IS OF BULK AT MOST 1048576: true; the input reads as it did. -/
def fnLinesUptoRow : OpenClaim := { program := "ytbbcjponeiphaaa", sum := "fe2926a837f966feecbbf51d7a2021e593127bbaec1cee05262681a6298c0ac8", func := "loop.example/g00900/laws.FnLines", spec := "fnLines", unfollowed := true, recurses := true, apart := false, narrowed := true }
def FnLinesUptoSaid : Prop := fnLinesUptoRow.holds Try.pinned (OpenSpec.upto fnLinesSpec)

/-- 'laws.FnReach', WHERE WHAT IT READS IS OF BULK AT MOST 1048576: true; the input reads as it did. -/
def fnReachUptoRow : OpenClaim := { program := "ytbbcjponeiphaaa", sum := "fe2926a837f966feecbbf51d7a2021e593127bbaec1cee05262681a6298c0ac8", func := "loop.example/g00900/laws.FnReach", spec := "fnReach", unfollowed := true, recurses := true, apart := false, narrowed := true }
def FnReachUptoSaid : Prop := fnReachUptoRow.holds Try.pinned (OpenSpec.upto fnReachSpec)

/-- 'laws.FnExactSplitString', WHERE WHAT IT READS IS OF BULK AT MOST 1048576: true; the input reads as it did. -/
def fnExactSplitStringUptoRow : OpenClaim := { program := "ytbbcjponeiphaaa", sum := "fe2926a837f966feecbbf51d7a2021e593127bbaec1cee05262681a6298c0ac8", func := "loop.example/g00900/laws.FnExactSplitString", spec := "fnExactSplitString", unfollowed := true, recurses := true, apart := false, narrowed := true }
def FnExactSplitStringUptoSaid : Prop := fnExactSplitStringUptoRow.holds Try.pinned (OpenSpec.upto fnExactSplitStringSpec)

/-- 'laws.FnSplitJoin', WHERE WHAT IT READS IS OF BULK AT MOST 1048576: true; the input reads as it did. -/
def fnSplitJoinUptoRow : OpenClaim := { program := "ytbbcjponeiphaaa", sum := "fe2926a837f966feecbbf51d7a2021e593127bbaec1cee05262681a6298c0ac8", func := "loop.example/g00900/laws.FnSplitJoin", spec := "fnSplitJoin", inPlace := ["internal/bytealg.IndexByteString", "internal/bytealg.IndexString", "internal/abi.NoEscape", "internal/bytealg.MakeNoZero"], unfollowed := true, recurses := true, named := ["internal/bytealg.MaxLen"], apart := false, narrowed := true }
def FnSplitJoinUptoSaid : Prop := fnSplitJoinUptoRow.holds Try.pinned (OpenSpec.upto fnSplitJoinSpec)

end Rows
end Go.Proofs.Ytbbcjponeiphaaa
