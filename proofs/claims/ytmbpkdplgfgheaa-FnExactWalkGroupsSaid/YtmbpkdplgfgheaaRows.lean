/-
  No cell of these rows narrows 'for every input' (looked for: loops, veiled, ifaces, maps, wideKeys, modest, calm, conditions, laid).
  DERIVED. THE GIVEN ROWS OF THIS SEAT. 12 by the template 'for every input the law returns true; each argument reads behind the call as it read before'; 0 by the template 'total and deterministic' (their statements: YtmbpkdplgfgheaaTotals.lean).
  GIVEN WITH THE SEED: the statements are not yours to turn. If you find one false, say at which input.
  Laid BY PROGRAM, IN A SANDBOX (cutbox-rows.mjs): the forced cells as the released guide's own fill.sh prints them over the translation dc43f482a3d01789… (all of the seat's roots in one cut). By AI agents, Wed Nov 11 2026. No macro, syntax, notation, axiom, sorry.
-/
import Derived.Test.YtmbpkdplgfgheaaChecked
import GoSem.Claim
import GoSem.ClaimJoined
import GoSem.ClaimMapViews
import Derived.JoinedTies
import Derived.KernelRfl
namespace Go.Proofs.Ytmbpkdplgfgheaa
/- THE CELL 'sum', in the pinned program and in every row, IS THE sha256 OF THE DUMP (.gsa) THAT YtmbpkdplgfgheaaProg.lean LOADS. Nothing in Lean hashes anything: it is a label: what it is worth is what the hold of that sum in a sandbox is worth. -/
noncomputable def Try.pinned : Pinned := { name := "ytmbpkdplgfgheaa", sum := "dc43f482a3d01789ed7d548e35c9ff970cfd43046fa65d68612526080163606b", checked := Try.checked }
namespace Rows
def none {H : Type} : Left H := { results := [], args := [] }

/-- 'laws.FnLines': WHATEVER THE INPUT: true; the input reads as it did. -/
def fnLinesSpec : ChangeSpec := { name := "fnLines", fn := fun _ => fun
  | [d] => { results := [.lit (.bool true)], args := [d] }
  | _ => none }
def fnLinesRow : OpenClaim := { program := "ytmbpkdplgfgheaa", sum := "dc43f482a3d01789ed7d548e35c9ff970cfd43046fa65d68612526080163606b", func := "loop.example/g00900/laws.FnLines", spec := "fnLines", unfollowed := true, recurses := true, apart := false }
def FnLinesSaid : Prop := fnLinesRow.holds Try.pinned (OpenSpec.ofChange fnLinesSpec)

/-- ITS FALSE NEIGHBOUR: 'it returns false'. Refute it at one input. -/
def fnLinesWrong : ChangeSpec := { name := "fnLines", fn := fun _ => fun
  | [d] => { results := [.lit (.bool false)], args := [d] }
  | _ => none }
def FnLinesWrongFalsely : Prop := fnLinesRow.holds Try.pinned (OpenSpec.ofChange fnLinesWrong)

/-- 'laws.FnWalking': WHATEVER THE INPUT: true; the input reads as it did. -/
def fnWalkingSpec : ChangeSpec := { name := "fnWalking", fn := fun _ => fun
  | [d] => { results := [.lit (.bool true)], args := [d] }
  | _ => none }
def fnWalkingRow : OpenClaim := { program := "ytmbpkdplgfgheaa", sum := "dc43f482a3d01789ed7d548e35c9ff970cfd43046fa65d68612526080163606b", func := "loop.example/g00900/laws.FnWalking", spec := "fnWalking", recurses := true, apart := false }
def FnWalkingSaid : Prop := fnWalkingRow.holds Try.pinned (OpenSpec.ofChange fnWalkingSpec)

/-- ITS FALSE NEIGHBOUR: 'it returns false'. Refute it at one input. -/
def fnWalkingWrong : ChangeSpec := { name := "fnWalking", fn := fun _ => fun
  | [d] => { results := [.lit (.bool false)], args := [d] }
  | _ => none }
def FnWalkingWrongFalsely : Prop := fnWalkingRow.holds Try.pinned (OpenSpec.ofChange fnWalkingWrong)

/-- 'laws.FnCatching': WHATEVER THE INPUT: true; the input reads as it did. -/
def fnCatchingSpec : ChangeSpec := { name := "fnCatching", fn := fun _ => fun
  | [d] => { results := [.lit (.bool true)], args := [d] }
  | _ => none }
def fnCatchingRow : OpenClaim := { program := "ytmbpkdplgfgheaa", sum := "dc43f482a3d01789ed7d548e35c9ff970cfd43046fa65d68612526080163606b", func := "loop.example/g00900/laws.FnCatching", spec := "fnCatching", unfollowed := true, recurses := true, apart := false }
def FnCatchingSaid : Prop := fnCatchingRow.holds Try.pinned (OpenSpec.ofChange fnCatchingSpec)

/-- ITS FALSE NEIGHBOUR: 'it returns false'. Refute it at one input. -/
def fnCatchingWrong : ChangeSpec := { name := "fnCatching", fn := fun _ => fun
  | [d] => { results := [.lit (.bool false)], args := [d] }
  | _ => none }
def FnCatchingWrongFalsely : Prop := fnCatchingRow.holds Try.pinned (OpenSpec.ofChange fnCatchingWrong)

/-- 'laws.FnExactAddTrip': WHATEVER THE INPUT: true; the input reads as it did. -/
def fnExactAddTripSpec : ChangeSpec := { name := "fnExactAddTrip", fn := fun _ => fun
  | [d1, d2] => { results := [.lit (.bool true)], args := [d1, d2] }
  | _ => none }
def fnExactAddTripRow : OpenClaim := { program := "ytmbpkdplgfgheaa", sum := "dc43f482a3d01789ed7d548e35c9ff970cfd43046fa65d68612526080163606b", func := "loop.example/g00900/laws.FnExactAddTrip", spec := "fnExactAddTrip", inPlace := ["slices.overlaps[loop.example/g00900/impl.Trip]"], unfollowed := true, recurses := true, apart := false }
def FnExactAddTripSaid : Prop := fnExactAddTripRow.holds Try.pinned (OpenSpec.ofChange fnExactAddTripSpec)

/-- ITS FALSE NEIGHBOUR: 'it returns false'. Refute it at one input. -/
def fnExactAddTripWrong : ChangeSpec := { name := "fnExactAddTrip", fn := fun _ => fun
  | [d1, d2] => { results := [.lit (.bool false)], args := [d1, d2] }
  | _ => none }
def FnExactAddTripWrongFalsely : Prop := fnExactAddTripRow.holds Try.pinned (OpenSpec.ofChange fnExactAddTripWrong)

/-- 'laws.FnExactDeparturesAt': WHATEVER THE INPUT: true; the input reads as it did. -/
def fnExactDeparturesAtSpec : ChangeSpec := { name := "fnExactDeparturesAt", fn := fun _ => fun
  | [d1, d2, d3] => { results := [.lit (.bool true)], args := [d1, d2, d3] }
  | _ => none }
def fnExactDeparturesAtRow : OpenClaim := { program := "ytmbpkdplgfgheaa", sum := "dc43f482a3d01789ed7d548e35c9ff970cfd43046fa65d68612526080163606b", func := "loop.example/g00900/laws.FnExactDeparturesAt", spec := "fnExactDeparturesAt", unfollowed := true, recurses := true, apart := false }
def FnExactDeparturesAtSaid : Prop := fnExactDeparturesAtRow.holds Try.pinned (OpenSpec.ofChange fnExactDeparturesAtSpec)

/-- ITS FALSE NEIGHBOUR: 'it returns false'. Refute it at one input. -/
def fnExactDeparturesAtWrong : ChangeSpec := { name := "fnExactDeparturesAt", fn := fun _ => fun
  | [d1, d2, d3] => { results := [.lit (.bool false)], args := [d1, d2, d3] }
  | _ => none }
def FnExactDeparturesAtWrongFalsely : Prop := fnExactDeparturesAtRow.holds Try.pinned (OpenSpec.ofChange fnExactDeparturesAtWrong)

/-- 'laws.FnExactIsValidWalks': WHATEVER THE INPUT: true; the input reads as it did. -/
def fnExactIsValidWalksSpec : ChangeSpec := { name := "fnExactIsValidWalks", fn := fun _ => fun
  | [d1, d2] => { results := [.lit (.bool true)], args := [d1, d2] }
  | _ => none }
def fnExactIsValidWalksRow : OpenClaim := { program := "ytmbpkdplgfgheaa", sum := "dc43f482a3d01789ed7d548e35c9ff970cfd43046fa65d68612526080163606b", func := "loop.example/g00900/laws.FnExactIsValidWalks", spec := "fnExactIsValidWalks", apart := false }
def FnExactIsValidWalksSaid : Prop := fnExactIsValidWalksRow.holds Try.pinned (OpenSpec.ofChange fnExactIsValidWalksSpec)

/-- ITS FALSE NEIGHBOUR: 'it returns false'. Refute it at one input. -/
def fnExactIsValidWalksWrong : ChangeSpec := { name := "fnExactIsValidWalks", fn := fun _ => fun
  | [d1, d2] => { results := [.lit (.bool false)], args := [d1, d2] }
  | _ => none }
def FnExactIsValidWalksWrongFalsely : Prop := fnExactIsValidWalksRow.holds Try.pinned (OpenSpec.ofChange fnExactIsValidWalksWrong)

/-- 'laws.FnExactWalkingTimes': WHATEVER THE INPUT: true; the input reads as it did. -/
def fnExactWalkingTimesSpec : ChangeSpec := { name := "fnExactWalkingTimes", fn := fun _ => fun
  | [d1, d2, d3] => { results := [.lit (.bool true)], args := [d1, d2, d3] }
  | _ => none }
def fnExactWalkingTimesRow : OpenClaim := { program := "ytmbpkdplgfgheaa", sum := "dc43f482a3d01789ed7d548e35c9ff970cfd43046fa65d68612526080163606b", func := "loop.example/g00900/laws.FnExactWalkingTimes", spec := "fnExactWalkingTimes", recurses := true, apart := false }
def FnExactWalkingTimesSaid : Prop := fnExactWalkingTimesRow.holds Try.pinned (OpenSpec.ofChange fnExactWalkingTimesSpec)

/-- ITS FALSE NEIGHBOUR: 'it returns false'. Refute it at one input. -/
def fnExactWalkingTimesWrong : ChangeSpec := { name := "fnExactWalkingTimes", fn := fun _ => fun
  | [d1, d2, d3] => { results := [.lit (.bool false)], args := [d1, d2, d3] }
  | _ => none }
def FnExactWalkingTimesWrongFalsely : Prop := fnExactWalkingTimesRow.holds Try.pinned (OpenSpec.ofChange fnExactWalkingTimesWrong)

/-- 'laws.FnExactShortestWalk': WHATEVER THE INPUT: true; the input reads as it did. -/
def fnExactShortestWalkSpec : ChangeSpec := { name := "fnExactShortestWalk", fn := fun _ => fun
  | [d1, d2, d3, d4] => { results := [.lit (.bool true)], args := [d1, d2, d3, d4] }
  | _ => none }
def fnExactShortestWalkRow : OpenClaim := { program := "ytmbpkdplgfgheaa", sum := "dc43f482a3d01789ed7d548e35c9ff970cfd43046fa65d68612526080163606b", func := "loop.example/g00900/laws.FnExactShortestWalk", spec := "fnExactShortestWalk", recurses := true, apart := false }
def FnExactShortestWalkSaid : Prop := fnExactShortestWalkRow.holds Try.pinned (OpenSpec.ofChange fnExactShortestWalkSpec)

/-- ITS FALSE NEIGHBOUR: 'it returns false'. Refute it at one input. -/
def fnExactShortestWalkWrong : ChangeSpec := { name := "fnExactShortestWalk", fn := fun _ => fun
  | [d1, d2, d3, d4] => { results := [.lit (.bool false)], args := [d1, d2, d3, d4] }
  | _ => none }
def FnExactShortestWalkWrongFalsely : Prop := fnExactShortestWalkRow.holds Try.pinned (OpenSpec.ofChange fnExactShortestWalkWrong)

/-- 'laws.FnExactCloseWalks': WHATEVER THE INPUT: true; the input reads as it did. -/
def fnExactCloseWalksSpec : ChangeSpec := { name := "fnExactCloseWalks", fn := fun _ => fun
  | [d1, d2] => { results := [.lit (.bool true)], args := [d1, d2] }
  | _ => none }
def fnExactCloseWalksRow : OpenClaim := { program := "ytmbpkdplgfgheaa", sum := "dc43f482a3d01789ed7d548e35c9ff970cfd43046fa65d68612526080163606b", func := "loop.example/g00900/laws.FnExactCloseWalks", spec := "fnExactCloseWalks", recurses := true, apart := false }
def FnExactCloseWalksSaid : Prop := fnExactCloseWalksRow.holds Try.pinned (OpenSpec.ofChange fnExactCloseWalksSpec)

/-- ITS FALSE NEIGHBOUR: 'it returns false'. Refute it at one input. -/
def fnExactCloseWalksWrong : ChangeSpec := { name := "fnExactCloseWalks", fn := fun _ => fun
  | [d1, d2] => { results := [.lit (.bool false)], args := [d1, d2] }
  | _ => none }
def FnExactCloseWalksWrongFalsely : Prop := fnExactCloseWalksRow.holds Try.pinned (OpenSpec.ofChange fnExactCloseWalksWrong)

/-- 'laws.FnExactWalkGroups': WHATEVER THE INPUT: true; the input reads as it did. -/
def fnExactWalkGroupsSpec : ChangeSpec := { name := "fnExactWalkGroups", fn := fun _ => fun
  | [d1, d2, d3] => { results := [.lit (.bool true)], args := [d1, d2, d3] }
  | _ => none }
def fnExactWalkGroupsRow : OpenClaim := { program := "ytmbpkdplgfgheaa", sum := "dc43f482a3d01789ed7d548e35c9ff970cfd43046fa65d68612526080163606b", func := "loop.example/g00900/laws.FnExactWalkGroups", spec := "fnExactWalkGroups", recurses := true, apart := false }
def FnExactWalkGroupsSaid : Prop := fnExactWalkGroupsRow.holds Try.pinned (OpenSpec.ofChange fnExactWalkGroupsSpec)

/-- ITS FALSE NEIGHBOUR: 'it returns false'. Refute it at one input. -/
def fnExactWalkGroupsWrong : ChangeSpec := { name := "fnExactWalkGroups", fn := fun _ => fun
  | [d1, d2, d3] => { results := [.lit (.bool false)], args := [d1, d2, d3] }
  | _ => none }
def FnExactWalkGroupsWrongFalsely : Prop := fnExactWalkGroupsRow.holds Try.pinned (OpenSpec.ofChange fnExactWalkGroupsWrong)

/-- 'laws.FnExactUselessWalks': WHATEVER THE INPUT: true; the input reads as it did. -/
def fnExactUselessWalksSpec : ChangeSpec := { name := "fnExactUselessWalks", fn := fun _ => fun
  | [d1, d2] => { results := [.lit (.bool true)], args := [d1, d2] }
  | _ => none }
def fnExactUselessWalksRow : OpenClaim := { program := "ytmbpkdplgfgheaa", sum := "dc43f482a3d01789ed7d548e35c9ff970cfd43046fa65d68612526080163606b", func := "loop.example/g00900/laws.FnExactUselessWalks", spec := "fnExactUselessWalks", recurses := true, apart := false }
def FnExactUselessWalksSaid : Prop := fnExactUselessWalksRow.holds Try.pinned (OpenSpec.ofChange fnExactUselessWalksSpec)

/-- ITS FALSE NEIGHBOUR: 'it returns false'. Refute it at one input. -/
def fnExactUselessWalksWrong : ChangeSpec := { name := "fnExactUselessWalks", fn := fun _ => fun
  | [d1, d2] => { results := [.lit (.bool false)], args := [d1, d2] }
  | _ => none }
def FnExactUselessWalksWrongFalsely : Prop := fnExactUselessWalksRow.holds Try.pinned (OpenSpec.ofChange fnExactUselessWalksWrong)

/-- 'laws.FnExactChangeTime': WHATEVER THE INPUT: true; the input reads as it did. -/
def fnExactChangeTimeSpec : ChangeSpec := { name := "fnExactChangeTime", fn := fun _ => fun
  | [d1, d2, d3, d4] => { results := [.lit (.bool true)], args := [d1, d2, d3, d4] }
  | _ => none }
def fnExactChangeTimeRow : OpenClaim := { program := "ytmbpkdplgfgheaa", sum := "dc43f482a3d01789ed7d548e35c9ff970cfd43046fa65d68612526080163606b", func := "loop.example/g00900/laws.FnExactChangeTime", spec := "fnExactChangeTime", unfollowed := true, recurses := true, apart := false }
def FnExactChangeTimeSaid : Prop := fnExactChangeTimeRow.holds Try.pinned (OpenSpec.ofChange fnExactChangeTimeSpec)

/-- ITS FALSE NEIGHBOUR: 'it returns false'. Refute it at one input. -/
def fnExactChangeTimeWrong : ChangeSpec := { name := "fnExactChangeTime", fn := fun _ => fun
  | [d1, d2, d3, d4] => { results := [.lit (.bool false)], args := [d1, d2, d3, d4] }
  | _ => none }
def FnExactChangeTimeWrongFalsely : Prop := fnExactChangeTimeRow.holds Try.pinned (OpenSpec.ofChange fnExactChangeTimeWrong)

/- THE SECOND FORM. 'bulk': how many values and letters a reading holds, each counted each time it is reached (what is shared counts as often as it is met; a slice's spare places count too). A statement '..UptoSaid' is the law's where the arguments, and the package variables that the reading takes, are together of bulk at most 1048576: NARROWER than '..Said'. Prove '..Said' where nothing that the law and all that it calls make is longer than what came in: it says more and counts as full. Else prove '..UptoSaid'. A law counts once. -/
mutual
def uptoBulk {H : Type} : DataW H → Nat
  | .lit (.string bytes) => bytes.length + 1
  | .lit _ => 1
  | .nil => 1
  | .ptr d => uptoBulk d + 1
  | .slice elems spare => uptoBulkAll elems + uptoBulkAll spare + 1
  | .agg parts => uptoBulkAll parts + 1
  | .iface _ d => uptoBulk d + 1
  | .map entries => uptoBulkEntries entries + 1
  | .held _ => 1
def uptoBulkAll {H : Type} : List (DataW H) → Nat
  | [] => 0
  | d :: r => uptoBulk d + uptoBulkAll r
def uptoBulkEntries {H : Type} : List (Lit × DataW H) → Nat
  | [] => 0
  | x :: r => uptoBulkEntry x + uptoBulkEntries r
def uptoBulkEntry {H : Type} : Lit × DataW H → Nat
  | (.string bytes, d) => bytes.length + uptoBulk d + 1
  | (_, d) => uptoBulk d + 1
 end
def uptoSmall : (H : Type) → List (DataW H) → Bool := fun _ ds => decide (uptoBulkAll ds ≤ 1048576)
def OpenSpec.upto (s : _root_.Go.ChangeSpec) : _root_.Go.OpenSpec := { _root_.Go.OpenSpec.ofChange s with cond := some uptoSmall }

/-- 'laws.FnLines', WHERE WHAT IT READS IS OF BULK AT MOST 1048576: true; the input reads as it did. -/
def fnLinesUptoRow : OpenClaim := { program := "ytmbpkdplgfgheaa", sum := "dc43f482a3d01789ed7d548e35c9ff970cfd43046fa65d68612526080163606b", func := "loop.example/g00900/laws.FnLines", spec := "fnLines", unfollowed := true, recurses := true, apart := false, narrowed := true }
def FnLinesUptoSaid : Prop := fnLinesUptoRow.holds Try.pinned (OpenSpec.upto fnLinesSpec)

/-- 'laws.FnWalking', WHERE WHAT IT READS IS OF BULK AT MOST 1048576: true; the input reads as it did. -/
def fnWalkingUptoRow : OpenClaim := { program := "ytmbpkdplgfgheaa", sum := "dc43f482a3d01789ed7d548e35c9ff970cfd43046fa65d68612526080163606b", func := "loop.example/g00900/laws.FnWalking", spec := "fnWalking", recurses := true, apart := false, narrowed := true }
def FnWalkingUptoSaid : Prop := fnWalkingUptoRow.holds Try.pinned (OpenSpec.upto fnWalkingSpec)

/-- 'laws.FnCatching', WHERE WHAT IT READS IS OF BULK AT MOST 1048576: true; the input reads as it did. -/
def fnCatchingUptoRow : OpenClaim := { program := "ytmbpkdplgfgheaa", sum := "dc43f482a3d01789ed7d548e35c9ff970cfd43046fa65d68612526080163606b", func := "loop.example/g00900/laws.FnCatching", spec := "fnCatching", unfollowed := true, recurses := true, apart := false, narrowed := true }
def FnCatchingUptoSaid : Prop := fnCatchingUptoRow.holds Try.pinned (OpenSpec.upto fnCatchingSpec)

/-- 'laws.FnExactAddTrip', WHERE WHAT IT READS IS OF BULK AT MOST 1048576: true; the input reads as it did. -/
def fnExactAddTripUptoRow : OpenClaim := { program := "ytmbpkdplgfgheaa", sum := "dc43f482a3d01789ed7d548e35c9ff970cfd43046fa65d68612526080163606b", func := "loop.example/g00900/laws.FnExactAddTrip", spec := "fnExactAddTrip", inPlace := ["slices.overlaps[loop.example/g00900/impl.Trip]"], unfollowed := true, recurses := true, apart := false, narrowed := true }
def FnExactAddTripUptoSaid : Prop := fnExactAddTripUptoRow.holds Try.pinned (OpenSpec.upto fnExactAddTripSpec)

/-- 'laws.FnExactDeparturesAt', WHERE WHAT IT READS IS OF BULK AT MOST 1048576: true; the input reads as it did. -/
def fnExactDeparturesAtUptoRow : OpenClaim := { program := "ytmbpkdplgfgheaa", sum := "dc43f482a3d01789ed7d548e35c9ff970cfd43046fa65d68612526080163606b", func := "loop.example/g00900/laws.FnExactDeparturesAt", spec := "fnExactDeparturesAt", unfollowed := true, recurses := true, apart := false, narrowed := true }
def FnExactDeparturesAtUptoSaid : Prop := fnExactDeparturesAtUptoRow.holds Try.pinned (OpenSpec.upto fnExactDeparturesAtSpec)

/-- 'laws.FnExactIsValidWalks', WHERE WHAT IT READS IS OF BULK AT MOST 1048576: true; the input reads as it did. -/
def fnExactIsValidWalksUptoRow : OpenClaim := { program := "ytmbpkdplgfgheaa", sum := "dc43f482a3d01789ed7d548e35c9ff970cfd43046fa65d68612526080163606b", func := "loop.example/g00900/laws.FnExactIsValidWalks", spec := "fnExactIsValidWalks", apart := false, narrowed := true }
def FnExactIsValidWalksUptoSaid : Prop := fnExactIsValidWalksUptoRow.holds Try.pinned (OpenSpec.upto fnExactIsValidWalksSpec)

/-- 'laws.FnExactWalkingTimes', WHERE WHAT IT READS IS OF BULK AT MOST 1048576: true; the input reads as it did. -/
def fnExactWalkingTimesUptoRow : OpenClaim := { program := "ytmbpkdplgfgheaa", sum := "dc43f482a3d01789ed7d548e35c9ff970cfd43046fa65d68612526080163606b", func := "loop.example/g00900/laws.FnExactWalkingTimes", spec := "fnExactWalkingTimes", recurses := true, apart := false, narrowed := true }
def FnExactWalkingTimesUptoSaid : Prop := fnExactWalkingTimesUptoRow.holds Try.pinned (OpenSpec.upto fnExactWalkingTimesSpec)

/-- 'laws.FnExactShortestWalk', WHERE WHAT IT READS IS OF BULK AT MOST 1048576: true; the input reads as it did. -/
def fnExactShortestWalkUptoRow : OpenClaim := { program := "ytmbpkdplgfgheaa", sum := "dc43f482a3d01789ed7d548e35c9ff970cfd43046fa65d68612526080163606b", func := "loop.example/g00900/laws.FnExactShortestWalk", spec := "fnExactShortestWalk", recurses := true, apart := false, narrowed := true }
def FnExactShortestWalkUptoSaid : Prop := fnExactShortestWalkUptoRow.holds Try.pinned (OpenSpec.upto fnExactShortestWalkSpec)

/-- 'laws.FnExactCloseWalks', WHERE WHAT IT READS IS OF BULK AT MOST 1048576: true; the input reads as it did. -/
def fnExactCloseWalksUptoRow : OpenClaim := { program := "ytmbpkdplgfgheaa", sum := "dc43f482a3d01789ed7d548e35c9ff970cfd43046fa65d68612526080163606b", func := "loop.example/g00900/laws.FnExactCloseWalks", spec := "fnExactCloseWalks", recurses := true, apart := false, narrowed := true }
def FnExactCloseWalksUptoSaid : Prop := fnExactCloseWalksUptoRow.holds Try.pinned (OpenSpec.upto fnExactCloseWalksSpec)

/-- 'laws.FnExactWalkGroups', WHERE WHAT IT READS IS OF BULK AT MOST 1048576: true; the input reads as it did. -/
def fnExactWalkGroupsUptoRow : OpenClaim := { program := "ytmbpkdplgfgheaa", sum := "dc43f482a3d01789ed7d548e35c9ff970cfd43046fa65d68612526080163606b", func := "loop.example/g00900/laws.FnExactWalkGroups", spec := "fnExactWalkGroups", recurses := true, apart := false, narrowed := true }
def FnExactWalkGroupsUptoSaid : Prop := fnExactWalkGroupsUptoRow.holds Try.pinned (OpenSpec.upto fnExactWalkGroupsSpec)

/-- 'laws.FnExactUselessWalks', WHERE WHAT IT READS IS OF BULK AT MOST 1048576: true; the input reads as it did. -/
def fnExactUselessWalksUptoRow : OpenClaim := { program := "ytmbpkdplgfgheaa", sum := "dc43f482a3d01789ed7d548e35c9ff970cfd43046fa65d68612526080163606b", func := "loop.example/g00900/laws.FnExactUselessWalks", spec := "fnExactUselessWalks", recurses := true, apart := false, narrowed := true }
def FnExactUselessWalksUptoSaid : Prop := fnExactUselessWalksUptoRow.holds Try.pinned (OpenSpec.upto fnExactUselessWalksSpec)

/-- 'laws.FnExactChangeTime', WHERE WHAT IT READS IS OF BULK AT MOST 1048576: true; the input reads as it did. -/
def fnExactChangeTimeUptoRow : OpenClaim := { program := "ytmbpkdplgfgheaa", sum := "dc43f482a3d01789ed7d548e35c9ff970cfd43046fa65d68612526080163606b", func := "loop.example/g00900/laws.FnExactChangeTime", spec := "fnExactChangeTime", unfollowed := true, recurses := true, apart := false, narrowed := true }
def FnExactChangeTimeUptoSaid : Prop := fnExactChangeTimeUptoRow.holds Try.pinned (OpenSpec.upto fnExactChangeTimeSpec)

end Rows
end Go.Proofs.Ytmbpkdplgfgheaa
