/-
  No cell of these rows narrows 'for every input' (looked for: loops, veiled, ifaces, maps, wideKeys, modest, calm, conditions, laid).
  DERIVED. THE GIVEN ROWS OF THIS SEAT. 8 by the template 'for every input the law returns true; each argument reads behind the call as it read before'; 0 by the template 'total and deterministic' (their statements: YtehpeifaknbcnaaTotals.lean).
  GIVEN WITH THE SEED: the statements are not yours to turn. If you find one false, say at which input.
  Laid BY PROGRAM, IN A SANDBOX (cutbox-rows.mjs): the forced cells as the released guide's own fill.sh prints them over the translation b179abfa7aba7f9d… (all of the seat's roots in one cut). By AI agents, Wed Nov 11 2026. No macro, syntax, notation, axiom, sorry.
-/
import Derived.Test.YtehpeifaknbcnaaChecked
import GoSem.Claim
import GoSem.ClaimJoined
import GoSem.ClaimMapViews
import Derived.JoinedTies
import Derived.KernelRfl
namespace Go.Proofs.Ytehpeifaknbcnaa
/- THE CELL 'sum', in the pinned program and in every row, IS THE sha256 OF THE DUMP (.gsa) THAT YtehpeifaknbcnaaProg.lean LOADS. Nothing in Lean hashes anything: it is a label: what it is worth is what the hold of that sum in a sandbox is worth. -/
noncomputable def Try.pinned : Pinned := { name := "ytehpeifaknbcnaa", sum := "b179abfa7aba7f9dc36e8e23746f044bf9f62f35836ce0f13fcae17507bcd06b", checked := Try.checked }
namespace Rows
def none {H : Type} : Left H := { results := [], args := [] }

/-- 'laws.FnExactIsValidFleet': WHATEVER THE INPUT: true; the input reads as it did. -/
def fnExactIsValidFleetSpec : ChangeSpec := { name := "fnExactIsValidFleet", fn := fun _ => fun
  | [d1, d2] => { results := [.lit (.bool true)], args := [d1, d2] }
  | _ => none }
def fnExactIsValidFleetRow : OpenClaim := { program := "ytehpeifaknbcnaa", sum := "b179abfa7aba7f9dc36e8e23746f044bf9f62f35836ce0f13fcae17507bcd06b", func := "loop.example/g00900/laws.FnExactIsValidFleet", spec := "fnExactIsValidFleet", apart := false }
def FnExactIsValidFleetSaid : Prop := fnExactIsValidFleetRow.holds Try.pinned (OpenSpec.ofChange fnExactIsValidFleetSpec)

/-- ITS FALSE NEIGHBOUR: 'it returns false'. Refute it at one input. -/
def fnExactIsValidFleetWrong : ChangeSpec := { name := "fnExactIsValidFleet", fn := fun _ => fun
  | [d1, d2] => { results := [.lit (.bool false)], args := [d1, d2] }
  | _ => none }
def FnExactIsValidFleetWrongFalsely : Prop := fnExactIsValidFleetRow.holds Try.pinned (OpenSpec.ofChange fnExactIsValidFleetWrong)

/-- 'laws.FnExactCanFollow': WHATEVER THE INPUT: true; the input reads as it did. -/
def fnExactCanFollowSpec : ChangeSpec := { name := "fnExactCanFollow", fn := fun _ => fun
  | [d1, d2, d3, d4] => { results := [.lit (.bool true)], args := [d1, d2, d3, d4] }
  | _ => none }
def fnExactCanFollowRow : OpenClaim := { program := "ytehpeifaknbcnaa", sum := "b179abfa7aba7f9dc36e8e23746f044bf9f62f35836ce0f13fcae17507bcd06b", func := "loop.example/g00900/laws.FnExactCanFollow", spec := "fnExactCanFollow", unfollowed := true, recurses := true, apart := false }
def FnExactCanFollowSaid : Prop := fnExactCanFollowRow.holds Try.pinned (OpenSpec.ofChange fnExactCanFollowSpec)

/-- ITS FALSE NEIGHBOUR: 'it returns false'. Refute it at one input. -/
def fnExactCanFollowWrong : ChangeSpec := { name := "fnExactCanFollow", fn := fun _ => fun
  | [d1, d2, d3, d4] => { results := [.lit (.bool false)], args := [d1, d2, d3, d4] }
  | _ => none }
def FnExactCanFollowWrongFalsely : Prop := fnExactCanFollowRow.holds Try.pinned (OpenSpec.ofChange fnExactCanFollowWrong)

/-- 'laws.FnExactIsValidBlocks': WHATEVER THE INPUT: true; the input reads as it did. -/
def fnExactIsValidBlocksSpec : ChangeSpec := { name := "fnExactIsValidBlocks", fn := fun _ => fun
  | [d1, d2, d3] => { results := [.lit (.bool true)], args := [d1, d2, d3] }
  | _ => none }
def fnExactIsValidBlocksRow : OpenClaim := { program := "ytehpeifaknbcnaa", sum := "b179abfa7aba7f9dc36e8e23746f044bf9f62f35836ce0f13fcae17507bcd06b", func := "loop.example/g00900/laws.FnExactIsValidBlocks", spec := "fnExactIsValidBlocks", unfollowed := true, recurses := true, apart := false }
def FnExactIsValidBlocksSaid : Prop := fnExactIsValidBlocksRow.holds Try.pinned (OpenSpec.ofChange fnExactIsValidBlocksSpec)

/-- ITS FALSE NEIGHBOUR: 'it returns false'. Refute it at one input. -/
def fnExactIsValidBlocksWrong : ChangeSpec := { name := "fnExactIsValidBlocks", fn := fun _ => fun
  | [d1, d2, d3] => { results := [.lit (.bool false)], args := [d1, d2, d3] }
  | _ => none }
def FnExactIsValidBlocksWrongFalsely : Prop := fnExactIsValidBlocksRow.holds Try.pinned (OpenSpec.ofChange fnExactIsValidBlocksWrong)

/-- 'laws.FnExactPeakTrips': WHATEVER THE INPUT: true; the input reads as it did. -/
def fnExactPeakTripsSpec : ChangeSpec := { name := "fnExactPeakTrips", fn := fun _ => fun
  | [d] => { results := [.lit (.bool true)], args := [d] }
  | _ => none }
def fnExactPeakTripsRow : OpenClaim := { program := "ytehpeifaknbcnaa", sum := "b179abfa7aba7f9dc36e8e23746f044bf9f62f35836ce0f13fcae17507bcd06b", func := "loop.example/g00900/laws.FnExactPeakTrips", spec := "fnExactPeakTrips", apart := false }
def FnExactPeakTripsSaid : Prop := fnExactPeakTripsRow.holds Try.pinned (OpenSpec.ofChange fnExactPeakTripsSpec)

/-- ITS FALSE NEIGHBOUR: 'it returns false'. Refute it at one input. -/
def fnExactPeakTripsWrong : ChangeSpec := { name := "fnExactPeakTrips", fn := fun _ => fun
  | [d] => { results := [.lit (.bool false)], args := [d] }
  | _ => none }
def FnExactPeakTripsWrongFalsely : Prop := fnExactPeakTripsRow.holds Try.pinned (OpenSpec.ofChange fnExactPeakTripsWrong)

/-- 'laws.FnExactDeadMinutes': WHATEVER THE INPUT: true; the input reads as it did. -/
def fnExactDeadMinutesSpec : ChangeSpec := { name := "fnExactDeadMinutes", fn := fun _ => fun
  | [d1, d2, d3] => { results := [.lit (.bool true)], args := [d1, d2, d3] }
  | _ => none }
def fnExactDeadMinutesRow : OpenClaim := { program := "ytehpeifaknbcnaa", sum := "b179abfa7aba7f9dc36e8e23746f044bf9f62f35836ce0f13fcae17507bcd06b", func := "loop.example/g00900/laws.FnExactDeadMinutes", spec := "fnExactDeadMinutes", unfollowed := true, recurses := true, apart := false }
def FnExactDeadMinutesSaid : Prop := fnExactDeadMinutesRow.holds Try.pinned (OpenSpec.ofChange fnExactDeadMinutesSpec)

/-- ITS FALSE NEIGHBOUR: 'it returns false'. Refute it at one input. -/
def fnExactDeadMinutesWrong : ChangeSpec := { name := "fnExactDeadMinutes", fn := fun _ => fun
  | [d1, d2, d3] => { results := [.lit (.bool false)], args := [d1, d2, d3] }
  | _ => none }
def FnExactDeadMinutesWrongFalsely : Prop := fnExactDeadMinutesRow.holds Try.pinned (OpenSpec.ofChange fnExactDeadMinutesWrong)

/-- 'laws.FnExactBlockSpans': WHATEVER THE INPUT: true; the input reads as it did. -/
def fnExactBlockSpansSpec : ChangeSpec := { name := "fnExactBlockSpans", fn := fun _ => fun
  | [d1, d2, d3] => { results := [.lit (.bool true)], args := [d1, d2, d3] }
  | _ => none }
def fnExactBlockSpansRow : OpenClaim := { program := "ytehpeifaknbcnaa", sum := "b179abfa7aba7f9dc36e8e23746f044bf9f62f35836ce0f13fcae17507bcd06b", func := "loop.example/g00900/laws.FnExactBlockSpans", spec := "fnExactBlockSpans", unfollowed := true, recurses := true, apart := false }
def FnExactBlockSpansSaid : Prop := fnExactBlockSpansRow.holds Try.pinned (OpenSpec.ofChange fnExactBlockSpansSpec)

/-- ITS FALSE NEIGHBOUR: 'it returns false'. Refute it at one input. -/
def fnExactBlockSpansWrong : ChangeSpec := { name := "fnExactBlockSpans", fn := fun _ => fun
  | [d1, d2, d3] => { results := [.lit (.bool false)], args := [d1, d2, d3] }
  | _ => none }
def FnExactBlockSpansWrongFalsely : Prop := fnExactBlockSpansRow.holds Try.pinned (OpenSpec.ofChange fnExactBlockSpansWrong)

/-- 'laws.FnExactBlockOf': WHATEVER THE INPUT: true; the input reads as it did. -/
def fnExactBlockOfSpec : ChangeSpec := { name := "fnExactBlockOf", fn := fun _ => fun
  | [d1, d2, d3, d4] => { results := [.lit (.bool true)], args := [d1, d2, d3, d4] }
  | _ => none }
def fnExactBlockOfRow : OpenClaim := { program := "ytehpeifaknbcnaa", sum := "b179abfa7aba7f9dc36e8e23746f044bf9f62f35836ce0f13fcae17507bcd06b", func := "loop.example/g00900/laws.FnExactBlockOf", spec := "fnExactBlockOf", unfollowed := true, recurses := true, apart := false }
def FnExactBlockOfSaid : Prop := fnExactBlockOfRow.holds Try.pinned (OpenSpec.ofChange fnExactBlockOfSpec)

/-- ITS FALSE NEIGHBOUR: 'it returns false'. Refute it at one input. -/
def fnExactBlockOfWrong : ChangeSpec := { name := "fnExactBlockOf", fn := fun _ => fun
  | [d1, d2, d3, d4] => { results := [.lit (.bool false)], args := [d1, d2, d3, d4] }
  | _ => none }
def FnExactBlockOfWrongFalsely : Prop := fnExactBlockOfRow.holds Try.pinned (OpenSpec.ofChange fnExactBlockOfWrong)

/-- 'laws.FnExactSwapTails': WHATEVER THE INPUT: true; the input reads as it did. -/
def fnExactSwapTailsSpec : ChangeSpec := { name := "fnExactSwapTails", fn := fun _ => fun
  | [d1, d2, d3, d4, d5] => { results := [.lit (.bool true)], args := [d1, d2, d3, d4, d5] }
  | _ => none }
def fnExactSwapTailsRow : OpenClaim := { program := "ytehpeifaknbcnaa", sum := "b179abfa7aba7f9dc36e8e23746f044bf9f62f35836ce0f13fcae17507bcd06b", func := "loop.example/g00900/laws.FnExactSwapTails", spec := "fnExactSwapTails", unfollowed := true, recurses := true, apart := false }
def FnExactSwapTailsSaid : Prop := fnExactSwapTailsRow.holds Try.pinned (OpenSpec.ofChange fnExactSwapTailsSpec)

/-- ITS FALSE NEIGHBOUR: 'it returns false'. Refute it at one input. -/
def fnExactSwapTailsWrong : ChangeSpec := { name := "fnExactSwapTails", fn := fun _ => fun
  | [d1, d2, d3, d4, d5] => { results := [.lit (.bool false)], args := [d1, d2, d3, d4, d5] }
  | _ => none }
def FnExactSwapTailsWrongFalsely : Prop := fnExactSwapTailsRow.holds Try.pinned (OpenSpec.ofChange fnExactSwapTailsWrong)

/- THE SECOND FORM. 'bulk': how many values and letters a reading holds, each counted each time it is reached (what is shared counts as often as it is met; a slice's spare places count too). A statement '..UptoSaid' is the law's where the arguments, and the package variables that the reading takes, are together of bulk at most 1048576: NARROWER than '..Said'. Prove '..Said' where nothing that the law and all that it calls make is longer than what came in: it says more and counts as full. Else prove '..UptoSaid'. A law counts once. -/
mutual
def uptoBulk {H : Type} : DataW H → Nat
  | .lit (.string bytes) => bytes.length + 1
  | .lit _ => 1
  | .nil => 1
  | .ptr d => uptoBulk d + 1
  | .slice elems spare => uptoBulkAll elems + uptoBulkAll spare + 1
  | .agg parts => uptoBulkAll parts + 1
  | .iface _ d => uptoBulk d + 1
  | .map entries => uptoBulkEntries entries + 1
  | .held _ => 1
def uptoBulkAll {H : Type} : List (DataW H) → Nat
  | [] => 0
  | d :: r => uptoBulk d + uptoBulkAll r
def uptoBulkEntries {H : Type} : List (Lit × DataW H) → Nat
  | [] => 0
  | x :: r => uptoBulkEntry x + uptoBulkEntries r
def uptoBulkEntry {H : Type} : Lit × DataW H → Nat
  | (.string bytes, d) => bytes.length + uptoBulk d + 1
  | (_, d) => uptoBulk d + 1
 end
def uptoSmall : (H : Type) → List (DataW H) → Bool := fun _ ds => decide (uptoBulkAll ds ≤ 1048576)
def OpenSpec.upto (s : _root_.Go.ChangeSpec) : _root_.Go.OpenSpec := { _root_.Go.OpenSpec.ofChange s with cond := some uptoSmall }

/-- 'laws.FnExactIsValidFleet', WHERE WHAT IT READS IS OF BULK AT MOST 1048576: true; the input reads as it did. -/
def fnExactIsValidFleetUptoRow : OpenClaim := { program := "ytehpeifaknbcnaa", sum := "b179abfa7aba7f9dc36e8e23746f044bf9f62f35836ce0f13fcae17507bcd06b", func := "loop.example/g00900/laws.FnExactIsValidFleet", spec := "fnExactIsValidFleet", apart := false, narrowed := true }
def FnExactIsValidFleetUptoSaid : Prop := fnExactIsValidFleetUptoRow.holds Try.pinned (OpenSpec.upto fnExactIsValidFleetSpec)

/-- 'laws.FnExactCanFollow', WHERE WHAT IT READS IS OF BULK AT MOST 1048576: true; the input reads as it did. -/
def fnExactCanFollowUptoRow : OpenClaim := { program := "ytehpeifaknbcnaa", sum := "b179abfa7aba7f9dc36e8e23746f044bf9f62f35836ce0f13fcae17507bcd06b", func := "loop.example/g00900/laws.FnExactCanFollow", spec := "fnExactCanFollow", unfollowed := true, recurses := true, apart := false, narrowed := true }
def FnExactCanFollowUptoSaid : Prop := fnExactCanFollowUptoRow.holds Try.pinned (OpenSpec.upto fnExactCanFollowSpec)

/-- 'laws.FnExactIsValidBlocks', WHERE WHAT IT READS IS OF BULK AT MOST 1048576: true; the input reads as it did. -/
def fnExactIsValidBlocksUptoRow : OpenClaim := { program := "ytehpeifaknbcnaa", sum := "b179abfa7aba7f9dc36e8e23746f044bf9f62f35836ce0f13fcae17507bcd06b", func := "loop.example/g00900/laws.FnExactIsValidBlocks", spec := "fnExactIsValidBlocks", unfollowed := true, recurses := true, apart := false, narrowed := true }
def FnExactIsValidBlocksUptoSaid : Prop := fnExactIsValidBlocksUptoRow.holds Try.pinned (OpenSpec.upto fnExactIsValidBlocksSpec)

/-- 'laws.FnExactPeakTrips', WHERE WHAT IT READS IS OF BULK AT MOST 1048576: true; the input reads as it did. -/
def fnExactPeakTripsUptoRow : OpenClaim := { program := "ytehpeifaknbcnaa", sum := "b179abfa7aba7f9dc36e8e23746f044bf9f62f35836ce0f13fcae17507bcd06b", func := "loop.example/g00900/laws.FnExactPeakTrips", spec := "fnExactPeakTrips", apart := false, narrowed := true }
def FnExactPeakTripsUptoSaid : Prop := fnExactPeakTripsUptoRow.holds Try.pinned (OpenSpec.upto fnExactPeakTripsSpec)

/-- 'laws.FnExactDeadMinutes', WHERE WHAT IT READS IS OF BULK AT MOST 1048576: true; the input reads as it did. -/
def fnExactDeadMinutesUptoRow : OpenClaim := { program := "ytehpeifaknbcnaa", sum := "b179abfa7aba7f9dc36e8e23746f044bf9f62f35836ce0f13fcae17507bcd06b", func := "loop.example/g00900/laws.FnExactDeadMinutes", spec := "fnExactDeadMinutes", unfollowed := true, recurses := true, apart := false, narrowed := true }
def FnExactDeadMinutesUptoSaid : Prop := fnExactDeadMinutesUptoRow.holds Try.pinned (OpenSpec.upto fnExactDeadMinutesSpec)

/-- 'laws.FnExactBlockSpans', WHERE WHAT IT READS IS OF BULK AT MOST 1048576: true; the input reads as it did. -/
def fnExactBlockSpansUptoRow : OpenClaim := { program := "ytehpeifaknbcnaa", sum := "b179abfa7aba7f9dc36e8e23746f044bf9f62f35836ce0f13fcae17507bcd06b", func := "loop.example/g00900/laws.FnExactBlockSpans", spec := "fnExactBlockSpans", unfollowed := true, recurses := true, apart := false, narrowed := true }
def FnExactBlockSpansUptoSaid : Prop := fnExactBlockSpansUptoRow.holds Try.pinned (OpenSpec.upto fnExactBlockSpansSpec)

/-- 'laws.FnExactBlockOf', WHERE WHAT IT READS IS OF BULK AT MOST 1048576: true; the input reads as it did. -/
def fnExactBlockOfUptoRow : OpenClaim := { program := "ytehpeifaknbcnaa", sum := "b179abfa7aba7f9dc36e8e23746f044bf9f62f35836ce0f13fcae17507bcd06b", func := "loop.example/g00900/laws.FnExactBlockOf", spec := "fnExactBlockOf", unfollowed := true, recurses := true, apart := false, narrowed := true }
def FnExactBlockOfUptoSaid : Prop := fnExactBlockOfUptoRow.holds Try.pinned (OpenSpec.upto fnExactBlockOfSpec)

/-- 'laws.FnExactSwapTails', WHERE WHAT IT READS IS OF BULK AT MOST 1048576: true; the input reads as it did. -/
def fnExactSwapTailsUptoRow : OpenClaim := { program := "ytehpeifaknbcnaa", sum := "b179abfa7aba7f9dc36e8e23746f044bf9f62f35836ce0f13fcae17507bcd06b", func := "loop.example/g00900/laws.FnExactSwapTails", spec := "fnExactSwapTails", unfollowed := true, recurses := true, apart := false, narrowed := true }
def FnExactSwapTailsUptoSaid : Prop := fnExactSwapTailsUptoRow.holds Try.pinned (OpenSpec.upto fnExactSwapTailsSpec)

end Rows
end Go.Proofs.Ytehpeifaknbcnaa
