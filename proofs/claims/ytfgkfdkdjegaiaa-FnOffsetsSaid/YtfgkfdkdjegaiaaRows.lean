/-
  No cell of these rows narrows 'for every input' (looked for: loops, veiled, ifaces, maps, wideKeys, modest, calm, conditions, laid).
  DERIVED. THE GIVEN ROWS OF THIS SEAT. 12 by the template 'for every input the law returns true; each argument reads behind the call as it read before'; 0 by the template 'total and deterministic' (their statements: YtfgkfdkdjegaiaaTotals.lean).
  GIVEN WITH THE SEED: the statements are not yours to turn. If you find one false, say at which input.
  Laid BY PROGRAM, IN A SANDBOX (cutbox-rows.mjs): the forced cells as the released guide's own fill.sh prints them over the translation 5c4e581f3cee2574… (all of the seat's roots in one cut). By AI agents, Wed Nov 11 2026. No macro, syntax, notation, axiom, sorry.
-/
import Derived.Test.YtfgkfdkdjegaiaaChecked
import GoSem.Claim
import GoSem.ClaimJoined
import GoSem.ClaimMapViews
import Derived.JoinedTies
import Derived.KernelRfl
namespace Go.Proofs.Ytfgkfdkdjegaiaa
/- THE CELL 'sum', in the pinned program and in every row, IS THE sha256 OF THE DUMP (.gsa) THAT YtfgkfdkdjegaiaaProg.lean LOADS. Nothing in Lean hashes anything: it is a label: what it is worth is what the hold of that sum in a sandbox is worth. -/
noncomputable def Try.pinned : Pinned := { name := "ytfgkfdkdjegaiaa", sum := "5c4e581f3cee257465fa244a8a5343b20d53507b543e59c2b84b37dbe9931da3", checked := Try.checked }
namespace Rows
def none {H : Type} : Left H := { results := [], args := [] }

/-- 'laws.FnGaps': WHATEVER THE INPUT: true; the input reads as it did. -/
def fnGapsSpec : ChangeSpec := { name := "fnGaps", fn := fun _ => fun
  | [d] => { results := [.lit (.bool true)], args := [d] }
  | _ => none }
def fnGapsRow : OpenClaim := { program := "ytfgkfdkdjegaiaa", sum := "5c4e581f3cee257465fa244a8a5343b20d53507b543e59c2b84b37dbe9931da3", func := "loop.example/g00900/laws.FnGaps", spec := "fnGaps", recurses := true, apart := false }
def FnGapsSaid : Prop := fnGapsRow.holds Try.pinned (OpenSpec.ofChange fnGapsSpec)

/-- ITS FALSE NEIGHBOUR: 'it returns false'. Refute it at one input. -/
def fnGapsWrong : ChangeSpec := { name := "fnGaps", fn := fun _ => fun
  | [d] => { results := [.lit (.bool false)], args := [d] }
  | _ => none }
def FnGapsWrongFalsely : Prop := fnGapsRow.holds Try.pinned (OpenSpec.ofChange fnGapsWrong)

/-- 'laws.FnOffsets': WHATEVER THE INPUT: true; the input reads as it did. -/
def fnOffsetsSpec : ChangeSpec := { name := "fnOffsets", fn := fun _ => fun
  | [d] => { results := [.lit (.bool true)], args := [d] }
  | _ => none }
def fnOffsetsRow : OpenClaim := { program := "ytfgkfdkdjegaiaa", sum := "5c4e581f3cee257465fa244a8a5343b20d53507b543e59c2b84b37dbe9931da3", func := "loop.example/g00900/laws.FnOffsets", spec := "fnOffsets", unfollowed := true, recurses := true, apart := false }
def FnOffsetsSaid : Prop := fnOffsetsRow.holds Try.pinned (OpenSpec.ofChange fnOffsetsSpec)

/-- ITS FALSE NEIGHBOUR: 'it returns false'. Refute it at one input. -/
def fnOffsetsWrong : ChangeSpec := { name := "fnOffsets", fn := fun _ => fun
  | [d] => { results := [.lit (.bool false)], args := [d] }
  | _ => none }
def FnOffsetsWrongFalsely : Prop := fnOffsetsRow.holds Try.pinned (OpenSpec.ofChange fnOffsetsWrong)

/-- 'laws.FnExactIsValidPatterns': WHATEVER THE INPUT: true; the input reads as it did. -/
def fnExactIsValidPatternsSpec : ChangeSpec := { name := "fnExactIsValidPatterns", fn := fun _ => fun
  | [d1, d2, d3] => { results := [.lit (.bool true)], args := [d1, d2, d3] }
  | _ => none }
def fnExactIsValidPatternsRow : OpenClaim := { program := "ytfgkfdkdjegaiaa", sum := "5c4e581f3cee257465fa244a8a5343b20d53507b543e59c2b84b37dbe9931da3", func := "loop.example/g00900/laws.FnExactIsValidPatterns", spec := "fnExactIsValidPatterns", apart := false }
def FnExactIsValidPatternsSaid : Prop := fnExactIsValidPatternsRow.holds Try.pinned (OpenSpec.ofChange fnExactIsValidPatternsSpec)

/-- ITS FALSE NEIGHBOUR: 'it returns false'. Refute it at one input. -/
def fnExactIsValidPatternsWrong : ChangeSpec := { name := "fnExactIsValidPatterns", fn := fun _ => fun
  | [d1, d2, d3] => { results := [.lit (.bool false)], args := [d1, d2, d3] }
  | _ => none }
def FnExactIsValidPatternsWrongFalsely : Prop := fnExactIsValidPatternsRow.holds Try.pinned (OpenSpec.ofChange fnExactIsValidPatternsWrong)

/-- 'laws.FnExactPassingRests': WHATEVER THE INPUT: true; the input reads as it did. -/
def fnExactPassingRestsSpec : ChangeSpec := { name := "fnExactPassingRests", fn := fun _ => fun
  | [d1, d2, d3, d4] => { results := [.lit (.bool true)], args := [d1, d2, d3, d4] }
  | _ => none }
def fnExactPassingRestsRow : OpenClaim := { program := "ytfgkfdkdjegaiaa", sum := "5c4e581f3cee257465fa244a8a5343b20d53507b543e59c2b84b37dbe9931da3", func := "loop.example/g00900/laws.FnExactPassingRests", spec := "fnExactPassingRests", recurses := true, apart := false }
def FnExactPassingRestsSaid : Prop := fnExactPassingRestsRow.holds Try.pinned (OpenSpec.ofChange fnExactPassingRestsSpec)

/-- ITS FALSE NEIGHBOUR: 'it returns false'. Refute it at one input. -/
def fnExactPassingRestsWrong : ChangeSpec := { name := "fnExactPassingRests", fn := fun _ => fun
  | [d1, d2, d3, d4] => { results := [.lit (.bool false)], args := [d1, d2, d3, d4] }
  | _ => none }
def FnExactPassingRestsWrongFalsely : Prop := fnExactPassingRestsRow.holds Try.pinned (OpenSpec.ofChange fnExactPassingRestsWrong)

/-- 'laws.FnExactGapsAt': WHATEVER THE INPUT: true; the input reads as it did. -/
def fnExactGapsAtSpec : ChangeSpec := { name := "fnExactGapsAt", fn := fun _ => fun
  | [d1, d2, d3, d4] => { results := [.lit (.bool true)], args := [d1, d2, d3, d4] }
  | _ => none }
def fnExactGapsAtRow : OpenClaim := { program := "ytfgkfdkdjegaiaa", sum := "5c4e581f3cee257465fa244a8a5343b20d53507b543e59c2b84b37dbe9931da3", func := "loop.example/g00900/laws.FnExactGapsAt", spec := "fnExactGapsAt", recurses := true, apart := false }
def FnExactGapsAtSaid : Prop := fnExactGapsAtRow.holds Try.pinned (OpenSpec.ofChange fnExactGapsAtSpec)

/-- ITS FALSE NEIGHBOUR: 'it returns false'. Refute it at one input. -/
def fnExactGapsAtWrong : ChangeSpec := { name := "fnExactGapsAt", fn := fun _ => fun
  | [d1, d2, d3, d4] => { results := [.lit (.bool false)], args := [d1, d2, d3, d4] }
  | _ => none }
def FnExactGapsAtWrongFalsely : Prop := fnExactGapsAtRow.holds Try.pinned (OpenSpec.ofChange fnExactGapsAtWrong)

/-- 'laws.FnExactDoubleWait': WHATEVER THE INPUT: true; the input reads as it did. -/
def fnExactDoubleWaitSpec : ChangeSpec := { name := "fnExactDoubleWait", fn := fun _ => fun
  | [d1, d2, d3, d4] => { results := [.lit (.bool true)], args := [d1, d2, d3, d4] }
  | _ => none }
def fnExactDoubleWaitRow : OpenClaim := { program := "ytfgkfdkdjegaiaa", sum := "5c4e581f3cee257465fa244a8a5343b20d53507b543e59c2b84b37dbe9931da3", func := "loop.example/g00900/laws.FnExactDoubleWait", spec := "fnExactDoubleWait", recurses := true, apart := false }
def FnExactDoubleWaitSaid : Prop := fnExactDoubleWaitRow.holds Try.pinned (OpenSpec.ofChange fnExactDoubleWaitSpec)

/-- ITS FALSE NEIGHBOUR: 'it returns false'. Refute it at one input. -/
def fnExactDoubleWaitWrong : ChangeSpec := { name := "fnExactDoubleWait", fn := fun _ => fun
  | [d1, d2, d3, d4] => { results := [.lit (.bool false)], args := [d1, d2, d3, d4] }
  | _ => none }
def FnExactDoubleWaitWrongFalsely : Prop := fnExactDoubleWaitRow.holds Try.pinned (OpenSpec.ofChange fnExactDoubleWaitWrong)

/-- 'laws.FnExactLargestGap': WHATEVER THE INPUT: true; the input reads as it did. -/
def fnExactLargestGapSpec : ChangeSpec := { name := "fnExactLargestGap", fn := fun _ => fun
  | [d1, d2, d3, d4] => { results := [.lit (.bool true)], args := [d1, d2, d3, d4] }
  | _ => none }
def fnExactLargestGapRow : OpenClaim := { program := "ytfgkfdkdjegaiaa", sum := "5c4e581f3cee257465fa244a8a5343b20d53507b543e59c2b84b37dbe9931da3", func := "loop.example/g00900/laws.FnExactLargestGap", spec := "fnExactLargestGap", recurses := true, apart := false }
def FnExactLargestGapSaid : Prop := fnExactLargestGapRow.holds Try.pinned (OpenSpec.ofChange fnExactLargestGapSpec)

/-- ITS FALSE NEIGHBOUR: 'it returns false'. Refute it at one input. -/
def fnExactLargestGapWrong : ChangeSpec := { name := "fnExactLargestGap", fn := fun _ => fun
  | [d1, d2, d3, d4] => { results := [.lit (.bool false)], args := [d1, d2, d3, d4] }
  | _ => none }
def FnExactLargestGapWrongFalsely : Prop := fnExactLargestGapRow.holds Try.pinned (OpenSpec.ofChange fnExactLargestGapWrong)

/-- 'laws.FnExactBestOffsets': WHATEVER THE INPUT: true; the input reads as it did. -/
def fnExactBestOffsetsSpec : ChangeSpec := { name := "fnExactBestOffsets", fn := fun _ => fun
  | [d1, d2, d3, d4] => { results := [.lit (.bool true)], args := [d1, d2, d3, d4] }
  | _ => none }
def fnExactBestOffsetsRow : OpenClaim := { program := "ytfgkfdkdjegaiaa", sum := "5c4e581f3cee257465fa244a8a5343b20d53507b543e59c2b84b37dbe9931da3", func := "loop.example/g00900/laws.FnExactBestOffsets", spec := "fnExactBestOffsets", unfollowed := true, recurses := true, apart := false }
def FnExactBestOffsetsSaid : Prop := fnExactBestOffsetsRow.holds Try.pinned (OpenSpec.ofChange fnExactBestOffsetsSpec)

/-- ITS FALSE NEIGHBOUR: 'it returns false'. Refute it at one input. -/
def fnExactBestOffsetsWrong : ChangeSpec := { name := "fnExactBestOffsets", fn := fun _ => fun
  | [d1, d2, d3, d4] => { results := [.lit (.bool false)], args := [d1, d2, d3, d4] }
  | _ => none }
def FnExactBestOffsetsWrongFalsely : Prop := fnExactBestOffsetsRow.holds Try.pinned (OpenSpec.ofChange fnExactBestOffsetsWrong)

/-- 'laws.FnExactTransferWait': WHATEVER THE INPUT: true; the input reads as it did. -/
def fnExactTransferWaitSpec : ChangeSpec := { name := "fnExactTransferWait", fn := fun _ => fun
  | [d1, d2, d3, d4, d5, d6, d7] => { results := [.lit (.bool true)], args := [d1, d2, d3, d4, d5, d6, d7] }
  | _ => none }
def fnExactTransferWaitRow : OpenClaim := { program := "ytfgkfdkdjegaiaa", sum := "5c4e581f3cee257465fa244a8a5343b20d53507b543e59c2b84b37dbe9931da3", func := "loop.example/g00900/laws.FnExactTransferWait", spec := "fnExactTransferWait", apart := false }
def FnExactTransferWaitSaid : Prop := fnExactTransferWaitRow.holds Try.pinned (OpenSpec.ofChange fnExactTransferWaitSpec)

/-- ITS FALSE NEIGHBOUR: 'it returns false'. Refute it at one input. -/
def fnExactTransferWaitWrong : ChangeSpec := { name := "fnExactTransferWait", fn := fun _ => fun
  | [d1, d2, d3, d4, d5, d6, d7] => { results := [.lit (.bool false)], args := [d1, d2, d3, d4, d5, d6, d7] }
  | _ => none }
def FnExactTransferWaitWrongFalsely : Prop := fnExactTransferWaitRow.holds Try.pinned (OpenSpec.ofChange fnExactTransferWaitWrong)

/-- 'laws.FnExactMeetingTimes': WHATEVER THE INPUT: true; the input reads as it did. -/
def fnExactMeetingTimesSpec : ChangeSpec := { name := "fnExactMeetingTimes", fn := fun _ => fun
  | [d1, d2, d3, d4, d5] => { results := [.lit (.bool true)], args := [d1, d2, d3, d4, d5] }
  | _ => none }
def fnExactMeetingTimesRow : OpenClaim := { program := "ytfgkfdkdjegaiaa", sum := "5c4e581f3cee257465fa244a8a5343b20d53507b543e59c2b84b37dbe9931da3", func := "loop.example/g00900/laws.FnExactMeetingTimes", spec := "fnExactMeetingTimes", apart := false }
def FnExactMeetingTimesSaid : Prop := fnExactMeetingTimesRow.holds Try.pinned (OpenSpec.ofChange fnExactMeetingTimesSpec)

/-- ITS FALSE NEIGHBOUR: 'it returns false'. Refute it at one input. -/
def fnExactMeetingTimesWrong : ChangeSpec := { name := "fnExactMeetingTimes", fn := fun _ => fun
  | [d1, d2, d3, d4, d5] => { results := [.lit (.bool false)], args := [d1, d2, d3, d4, d5] }
  | _ => none }
def FnExactMeetingTimesWrongFalsely : Prop := fnExactMeetingTimesRow.holds Try.pinned (OpenSpec.ofChange fnExactMeetingTimesWrong)

/-- 'laws.FnExactEvenTimes': WHATEVER THE INPUT: true; the input reads as it did. -/
def fnExactEvenTimesSpec : ChangeSpec := { name := "fnExactEvenTimes", fn := fun _ => fun
  | [d1, d2] => { results := [.lit (.bool true)], args := [d1, d2] }
  | _ => none }
def fnExactEvenTimesRow : OpenClaim := { program := "ytfgkfdkdjegaiaa", sum := "5c4e581f3cee257465fa244a8a5343b20d53507b543e59c2b84b37dbe9931da3", func := "loop.example/g00900/laws.FnExactEvenTimes", spec := "fnExactEvenTimes", apart := false }
def FnExactEvenTimesSaid : Prop := fnExactEvenTimesRow.holds Try.pinned (OpenSpec.ofChange fnExactEvenTimesSpec)

/-- ITS FALSE NEIGHBOUR: 'it returns false'. Refute it at one input. -/
def fnExactEvenTimesWrong : ChangeSpec := { name := "fnExactEvenTimes", fn := fun _ => fun
  | [d1, d2] => { results := [.lit (.bool false)], args := [d1, d2] }
  | _ => none }
def FnExactEvenTimesWrongFalsely : Prop := fnExactEvenTimesRow.holds Try.pinned (OpenSpec.ofChange fnExactEvenTimesWrong)

/-- 'laws.FnExactUnevenness': WHATEVER THE INPUT: true; the input reads as it did. -/
def fnExactUnevennessSpec : ChangeSpec := { name := "fnExactUnevenness", fn := fun _ => fun
  | [d1, d2, d3, d4] => { results := [.lit (.bool true)], args := [d1, d2, d3, d4] }
  | _ => none }
def fnExactUnevennessRow : OpenClaim := { program := "ytfgkfdkdjegaiaa", sum := "5c4e581f3cee257465fa244a8a5343b20d53507b543e59c2b84b37dbe9931da3", func := "loop.example/g00900/laws.FnExactUnevenness", spec := "fnExactUnevenness", recurses := true, apart := false }
def FnExactUnevennessSaid : Prop := fnExactUnevennessRow.holds Try.pinned (OpenSpec.ofChange fnExactUnevennessSpec)

/-- ITS FALSE NEIGHBOUR: 'it returns false'. Refute it at one input. -/
def fnExactUnevennessWrong : ChangeSpec := { name := "fnExactUnevenness", fn := fun _ => fun
  | [d1, d2, d3, d4] => { results := [.lit (.bool false)], args := [d1, d2, d3, d4] }
  | _ => none }
def FnExactUnevennessWrongFalsely : Prop := fnExactUnevennessRow.holds Try.pinned (OpenSpec.ofChange fnExactUnevennessWrong)

/- THE SECOND FORM. 'bulk': how many values and letters a reading holds, each counted each time it is reached (what is shared counts as often as it is met; a slice's spare places count too). A statement '..UptoSaid' is the law's where the arguments, and the package variables that the reading takes, are together of bulk at most 1048576: NARROWER than '..Said'. Prove '..Said' where nothing that the law and all that it calls make is longer than what came in: it says more and counts as full. Else prove '..UptoSaid'. A law counts once. -/
mutual
def uptoBulk {H : Type} : DataW H → Nat
  | .lit (.string bytes) => bytes.length + 1
  | .lit _ => 1
  | .nil => 1
  | .ptr d => uptoBulk d + 1
  | .slice elems spare => uptoBulkAll elems + uptoBulkAll spare + 1
  | .agg parts => uptoBulkAll parts + 1
  | .iface _ d => uptoBulk d + 1
  | .map entries => uptoBulkEntries entries + 1
  | .held _ => 1
def uptoBulkAll {H : Type} : List (DataW H) → Nat
  | [] => 0
  | d :: r => uptoBulk d + uptoBulkAll r
def uptoBulkEntries {H : Type} : List (Lit × DataW H) → Nat
  | [] => 0
  | x :: r => uptoBulkEntry x + uptoBulkEntries r
def uptoBulkEntry {H : Type} : Lit × DataW H → Nat
  | (.string bytes, d) => bytes.length + uptoBulk d + 1
  | (_, d) => uptoBulk d + 1
 end
def uptoSmall : (H : Type) → List (DataW H) → Bool := fun _ ds => decide (uptoBulkAll ds ≤ 1048576)
def OpenSpec.upto (s : _root_.Go.ChangeSpec) : _root_.Go.OpenSpec := { _root_.Go.OpenSpec.ofChange s with cond := some uptoSmall }

/-- 'laws.FnGaps', WHERE WHAT IT READS IS OF BULK AT MOST 1048576: true; the input reads as it did. -/
def fnGapsUptoRow : OpenClaim := { program := "ytfgkfdkdjegaiaa", sum := "5c4e581f3cee257465fa244a8a5343b20d53507b543e59c2b84b37dbe9931da3", func := "loop.example/g00900/laws.FnGaps", spec := "fnGaps", recurses := true, apart := false, narrowed := true }
def FnGapsUptoSaid : Prop := fnGapsUptoRow.holds Try.pinned (OpenSpec.upto fnGapsSpec)

/-- 'laws.FnOffsets', WHERE WHAT IT READS IS OF BULK AT MOST 1048576: true; the input reads as it did. -/
def fnOffsetsUptoRow : OpenClaim := { program := "ytfgkfdkdjegaiaa", sum := "5c4e581f3cee257465fa244a8a5343b20d53507b543e59c2b84b37dbe9931da3", func := "loop.example/g00900/laws.FnOffsets", spec := "fnOffsets", unfollowed := true, recurses := true, apart := false, narrowed := true }
def FnOffsetsUptoSaid : Prop := fnOffsetsUptoRow.holds Try.pinned (OpenSpec.upto fnOffsetsSpec)

/-- 'laws.FnExactIsValidPatterns', WHERE WHAT IT READS IS OF BULK AT MOST 1048576: true; the input reads as it did. -/
def fnExactIsValidPatternsUptoRow : OpenClaim := { program := "ytfgkfdkdjegaiaa", sum := "5c4e581f3cee257465fa244a8a5343b20d53507b543e59c2b84b37dbe9931da3", func := "loop.example/g00900/laws.FnExactIsValidPatterns", spec := "fnExactIsValidPatterns", apart := false, narrowed := true }
def FnExactIsValidPatternsUptoSaid : Prop := fnExactIsValidPatternsUptoRow.holds Try.pinned (OpenSpec.upto fnExactIsValidPatternsSpec)

/-- 'laws.FnExactPassingRests', WHERE WHAT IT READS IS OF BULK AT MOST 1048576: true; the input reads as it did. -/
def fnExactPassingRestsUptoRow : OpenClaim := { program := "ytfgkfdkdjegaiaa", sum := "5c4e581f3cee257465fa244a8a5343b20d53507b543e59c2b84b37dbe9931da3", func := "loop.example/g00900/laws.FnExactPassingRests", spec := "fnExactPassingRests", recurses := true, apart := false, narrowed := true }
def FnExactPassingRestsUptoSaid : Prop := fnExactPassingRestsUptoRow.holds Try.pinned (OpenSpec.upto fnExactPassingRestsSpec)

/-- 'laws.FnExactGapsAt', WHERE WHAT IT READS IS OF BULK AT MOST 1048576: true; the input reads as it did. -/
def fnExactGapsAtUptoRow : OpenClaim := { program := "ytfgkfdkdjegaiaa", sum := "5c4e581f3cee257465fa244a8a5343b20d53507b543e59c2b84b37dbe9931da3", func := "loop.example/g00900/laws.FnExactGapsAt", spec := "fnExactGapsAt", recurses := true, apart := false, narrowed := true }
def FnExactGapsAtUptoSaid : Prop := fnExactGapsAtUptoRow.holds Try.pinned (OpenSpec.upto fnExactGapsAtSpec)

/-- 'laws.FnExactDoubleWait', WHERE WHAT IT READS IS OF BULK AT MOST 1048576: true; the input reads as it did. -/
def fnExactDoubleWaitUptoRow : OpenClaim := { program := "ytfgkfdkdjegaiaa", sum := "5c4e581f3cee257465fa244a8a5343b20d53507b543e59c2b84b37dbe9931da3", func := "loop.example/g00900/laws.FnExactDoubleWait", spec := "fnExactDoubleWait", recurses := true, apart := false, narrowed := true }
def FnExactDoubleWaitUptoSaid : Prop := fnExactDoubleWaitUptoRow.holds Try.pinned (OpenSpec.upto fnExactDoubleWaitSpec)

/-- 'laws.FnExactLargestGap', WHERE WHAT IT READS IS OF BULK AT MOST 1048576: true; the input reads as it did. -/
def fnExactLargestGapUptoRow : OpenClaim := { program := "ytfgkfdkdjegaiaa", sum := "5c4e581f3cee257465fa244a8a5343b20d53507b543e59c2b84b37dbe9931da3", func := "loop.example/g00900/laws.FnExactLargestGap", spec := "fnExactLargestGap", recurses := true, apart := false, narrowed := true }
def FnExactLargestGapUptoSaid : Prop := fnExactLargestGapUptoRow.holds Try.pinned (OpenSpec.upto fnExactLargestGapSpec)

/-- 'laws.FnExactBestOffsets', WHERE WHAT IT READS IS OF BULK AT MOST 1048576: true; the input reads as it did. -/
def fnExactBestOffsetsUptoRow : OpenClaim := { program := "ytfgkfdkdjegaiaa", sum := "5c4e581f3cee257465fa244a8a5343b20d53507b543e59c2b84b37dbe9931da3", func := "loop.example/g00900/laws.FnExactBestOffsets", spec := "fnExactBestOffsets", unfollowed := true, recurses := true, apart := false, narrowed := true }
def FnExactBestOffsetsUptoSaid : Prop := fnExactBestOffsetsUptoRow.holds Try.pinned (OpenSpec.upto fnExactBestOffsetsSpec)

/-- 'laws.FnExactTransferWait', WHERE WHAT IT READS IS OF BULK AT MOST 1048576: true; the input reads as it did. -/
def fnExactTransferWaitUptoRow : OpenClaim := { program := "ytfgkfdkdjegaiaa", sum := "5c4e581f3cee257465fa244a8a5343b20d53507b543e59c2b84b37dbe9931da3", func := "loop.example/g00900/laws.FnExactTransferWait", spec := "fnExactTransferWait", apart := false, narrowed := true }
def FnExactTransferWaitUptoSaid : Prop := fnExactTransferWaitUptoRow.holds Try.pinned (OpenSpec.upto fnExactTransferWaitSpec)

/-- 'laws.FnExactMeetingTimes', WHERE WHAT IT READS IS OF BULK AT MOST 1048576: true; the input reads as it did. -/
def fnExactMeetingTimesUptoRow : OpenClaim := { program := "ytfgkfdkdjegaiaa", sum := "5c4e581f3cee257465fa244a8a5343b20d53507b543e59c2b84b37dbe9931da3", func := "loop.example/g00900/laws.FnExactMeetingTimes", spec := "fnExactMeetingTimes", apart := false, narrowed := true }
def FnExactMeetingTimesUptoSaid : Prop := fnExactMeetingTimesUptoRow.holds Try.pinned (OpenSpec.upto fnExactMeetingTimesSpec)

/-- 'laws.FnExactEvenTimes', WHERE WHAT IT READS IS OF BULK AT MOST 1048576: true; the input reads as it did. -/
def fnExactEvenTimesUptoRow : OpenClaim := { program := "ytfgkfdkdjegaiaa", sum := "5c4e581f3cee257465fa244a8a5343b20d53507b543e59c2b84b37dbe9931da3", func := "loop.example/g00900/laws.FnExactEvenTimes", spec := "fnExactEvenTimes", apart := false, narrowed := true }
def FnExactEvenTimesUptoSaid : Prop := fnExactEvenTimesUptoRow.holds Try.pinned (OpenSpec.upto fnExactEvenTimesSpec)

/-- 'laws.FnExactUnevenness', WHERE WHAT IT READS IS OF BULK AT MOST 1048576: true; the input reads as it did. -/
def fnExactUnevennessUptoRow : OpenClaim := { program := "ytfgkfdkdjegaiaa", sum := "5c4e581f3cee257465fa244a8a5343b20d53507b543e59c2b84b37dbe9931da3", func := "loop.example/g00900/laws.FnExactUnevenness", spec := "fnExactUnevenness", recurses := true, apart := false, narrowed := true }
def FnExactUnevennessUptoSaid : Prop := fnExactUnevennessUptoRow.holds Try.pinned (OpenSpec.upto fnExactUnevennessSpec)

end Rows
end Go.Proofs.Ytfgkfdkdjegaiaa
