/-
  No cell of these rows narrows 'for every input' (looked for: loops, veiled, ifaces, maps, wideKeys, modest, calm, conditions, laid).
  DERIVED. THE GIVEN ROWS OF THIS SEAT. 8 by the template 'for every input the law returns true; each argument reads behind the call as it read before'; 0 by the template 'total and deterministic' (their statements: YtmcpafflnccfaaaTotals.lean).
  GIVEN WITH THE SEED: the statements are not yours to turn. If you find one false, say at which input.
  Laid BY PROGRAM, IN A SANDBOX (cutbox-rows.mjs): the forced cells as the released guide's own fill.sh prints them over the translation 3591a00eec8102e5… (all of the seat's roots in one cut). By AI agents, Wed Nov 11 2026. No macro, syntax, notation, axiom, sorry.
-/
import Derived.Test.YtmcpafflnccfaaaChecked
import GoSem.Claim
import GoSem.ClaimJoined
import GoSem.ClaimMapViews
import Derived.JoinedTies
import Derived.KernelRfl
namespace Go.Proofs.Ytmcpafflnccfaaa
/- THE CELL 'sum', in the pinned program and in every row, IS THE sha256 OF THE DUMP (.gsa) THAT YtmcpafflnccfaaaProg.lean LOADS. Nothing in Lean hashes anything: it is a label: what it is worth is what the hold of that sum in a sandbox is worth. -/
noncomputable def Try.pinned : Pinned := { name := "ytmcpafflnccfaaa", sum := "3591a00eec8102e52156d04640a0cffc77c719d2ca748f983625aa822316041a", checked := Try.checked }
namespace Rows
def none {H : Type} : Left H := { results := [], args := [] }

/-- 'laws.FnExactEarliestJourney': WHATEVER THE INPUT: true; the input reads as it did. -/
def fnExactEarliestJourneySpec : ChangeSpec := { name := "fnExactEarliestJourney", fn := fun _ => fun
  | [d1, d2, d3, d4, d5] => { results := [.lit (.bool true)], args := [d1, d2, d3, d4, d5] }
  | _ => none }
def fnExactEarliestJourneyRow : OpenClaim := { program := "ytmcpafflnccfaaa", sum := "3591a00eec8102e52156d04640a0cffc77c719d2ca748f983625aa822316041a", func := "loop.example/g00900/laws.FnExactEarliestJourney", spec := "fnExactEarliestJourney", unfollowed := true, recurses := true, plainKeys := false, apart := false }
def FnExactEarliestJourneySaid : Prop := fnExactEarliestJourneyRow.holds Try.pinned (OpenSpec.ofChange fnExactEarliestJourneySpec)

/-- ITS FALSE NEIGHBOUR: 'it returns false'. Refute it at one input. -/
def fnExactEarliestJourneyWrong : ChangeSpec := { name := "fnExactEarliestJourney", fn := fun _ => fun
  | [d1, d2, d3, d4, d5] => { results := [.lit (.bool false)], args := [d1, d2, d3, d4, d5] }
  | _ => none }
def FnExactEarliestJourneyWrongFalsely : Prop := fnExactEarliestJourneyRow.holds Try.pinned (OpenSpec.ofChange fnExactEarliestJourneyWrong)

/-- 'laws.FnExactSurvivesDelay': WHATEVER THE INPUT: true; the input reads as it did. -/
def fnExactSurvivesDelaySpec : ChangeSpec := { name := "fnExactSurvivesDelay", fn := fun _ => fun
  | [d1, d2, d3, d4, d5] => { results := [.lit (.bool true)], args := [d1, d2, d3, d4, d5] }
  | _ => none }
def fnExactSurvivesDelayRow : OpenClaim := { program := "ytmcpafflnccfaaa", sum := "3591a00eec8102e52156d04640a0cffc77c719d2ca748f983625aa822316041a", func := "loop.example/g00900/laws.FnExactSurvivesDelay", spec := "fnExactSurvivesDelay", unfollowed := true, recurses := true, plainKeys := false, apart := false }
def FnExactSurvivesDelaySaid : Prop := fnExactSurvivesDelayRow.holds Try.pinned (OpenSpec.ofChange fnExactSurvivesDelaySpec)

/-- ITS FALSE NEIGHBOUR: 'it returns false'. Refute it at one input. -/
def fnExactSurvivesDelayWrong : ChangeSpec := { name := "fnExactSurvivesDelay", fn := fun _ => fun
  | [d1, d2, d3, d4, d5] => { results := [.lit (.bool false)], args := [d1, d2, d3, d4, d5] }
  | _ => none }
def FnExactSurvivesDelayWrongFalsely : Prop := fnExactSurvivesDelayRow.holds Try.pinned (OpenSpec.ofChange fnExactSurvivesDelayWrong)

/-- 'laws.FnExactSlackOf': WHATEVER THE INPUT: true; the input reads as it did. -/
def fnExactSlackOfSpec : ChangeSpec := { name := "fnExactSlackOf", fn := fun _ => fun
  | [d1, d2, d3] => { results := [.lit (.bool true)], args := [d1, d2, d3] }
  | _ => none }
def fnExactSlackOfRow : OpenClaim := { program := "ytmcpafflnccfaaa", sum := "3591a00eec8102e52156d04640a0cffc77c719d2ca748f983625aa822316041a", func := "loop.example/g00900/laws.FnExactSlackOf", spec := "fnExactSlackOf", plainKeys := false, apart := false }
def FnExactSlackOfSaid : Prop := fnExactSlackOfRow.holds Try.pinned (OpenSpec.ofChange fnExactSlackOfSpec)

/-- ITS FALSE NEIGHBOUR: 'it returns false'. Refute it at one input. -/
def fnExactSlackOfWrong : ChangeSpec := { name := "fnExactSlackOf", fn := fun _ => fun
  | [d1, d2, d3] => { results := [.lit (.bool false)], args := [d1, d2, d3] }
  | _ => none }
def FnExactSlackOfWrongFalsely : Prop := fnExactSlackOfRow.holds Try.pinned (OpenSpec.ofChange fnExactSlackOfWrong)

/-- 'laws.FnSlack': WHATEVER THE INPUT: true; the input reads as it did. -/
def fnSlackSpec : ChangeSpec := { name := "fnSlack", fn := fun _ => fun
  | [d] => { results := [.lit (.bool true)], args := [d] }
  | _ => none }
def fnSlackRow : OpenClaim := { program := "ytmcpafflnccfaaa", sum := "3591a00eec8102e52156d04640a0cffc77c719d2ca748f983625aa822316041a", func := "loop.example/g00900/laws.FnSlack", spec := "fnSlack", unfollowed := true, recurses := true, plainKeys := false, apart := false }
def FnSlackSaid : Prop := fnSlackRow.holds Try.pinned (OpenSpec.ofChange fnSlackSpec)

/-- ITS FALSE NEIGHBOUR: 'it returns false'. Refute it at one input. -/
def fnSlackWrong : ChangeSpec := { name := "fnSlack", fn := fun _ => fun
  | [d] => { results := [.lit (.bool false)], args := [d] }
  | _ => none }
def FnSlackWrongFalsely : Prop := fnSlackRow.holds Try.pinned (OpenSpec.ofChange fnSlackWrong)

/-- 'laws.FnJourneyTimes': WHATEVER THE INPUT: true; the input reads as it did. -/
def fnJourneyTimesSpec : ChangeSpec := { name := "fnJourneyTimes", fn := fun _ => fun
  | [d] => { results := [.lit (.bool true)], args := [d] }
  | _ => none }
def fnJourneyTimesRow : OpenClaim := { program := "ytmcpafflnccfaaa", sum := "3591a00eec8102e52156d04640a0cffc77c719d2ca748f983625aa822316041a", func := "loop.example/g00900/laws.FnJourneyTimes", spec := "fnJourneyTimes", unfollowed := true, recurses := true, plainKeys := false, apart := false }
def FnJourneyTimesSaid : Prop := fnJourneyTimesRow.holds Try.pinned (OpenSpec.ofChange fnJourneyTimesSpec)

/-- ITS FALSE NEIGHBOUR: 'it returns false'. Refute it at one input. -/
def fnJourneyTimesWrong : ChangeSpec := { name := "fnJourneyTimes", fn := fun _ => fun
  | [d] => { results := [.lit (.bool false)], args := [d] }
  | _ => none }
def FnJourneyTimesWrongFalsely : Prop := fnJourneyTimesRow.holds Try.pinned (OpenSpec.ofChange fnJourneyTimesWrong)

/-- 'laws.FnExactParetoJourneys': WHATEVER THE INPUT: true; the input reads as it did. -/
def fnExactParetoJourneysSpec : ChangeSpec := { name := "fnExactParetoJourneys", fn := fun _ => fun
  | [d1, d2, d3, d4, d5] => { results := [.lit (.bool true)], args := [d1, d2, d3, d4, d5] }
  | _ => none }
def fnExactParetoJourneysRow : OpenClaim := { program := "ytmcpafflnccfaaa", sum := "3591a00eec8102e52156d04640a0cffc77c719d2ca748f983625aa822316041a", func := "loop.example/g00900/laws.FnExactParetoJourneys", spec := "fnExactParetoJourneys", unfollowed := true, recurses := true, plainKeys := false, apart := false }
def FnExactParetoJourneysSaid : Prop := fnExactParetoJourneysRow.holds Try.pinned (OpenSpec.ofChange fnExactParetoJourneysSpec)

/-- ITS FALSE NEIGHBOUR: 'it returns false'. Refute it at one input. -/
def fnExactParetoJourneysWrong : ChangeSpec := { name := "fnExactParetoJourneys", fn := fun _ => fun
  | [d1, d2, d3, d4, d5] => { results := [.lit (.bool false)], args := [d1, d2, d3, d4, d5] }
  | _ => none }
def FnExactParetoJourneysWrongFalsely : Prop := fnExactParetoJourneysRow.holds Try.pinned (OpenSpec.ofChange fnExactParetoJourneysWrong)

/-- 'laws.FnPareto': WHATEVER THE INPUT: true; the input reads as it did. -/
def fnParetoSpec : ChangeSpec := { name := "fnPareto", fn := fun _ => fun
  | [d] => { results := [.lit (.bool true)], args := [d] }
  | _ => none }
def fnParetoRow : OpenClaim := { program := "ytmcpafflnccfaaa", sum := "3591a00eec8102e52156d04640a0cffc77c719d2ca748f983625aa822316041a", func := "loop.example/g00900/laws.FnPareto", spec := "fnPareto", unfollowed := true, recurses := true, plainKeys := false, apart := false }
def FnParetoSaid : Prop := fnParetoRow.holds Try.pinned (OpenSpec.ofChange fnParetoSpec)

/-- ITS FALSE NEIGHBOUR: 'it returns false'. Refute it at one input. -/
def fnParetoWrong : ChangeSpec := { name := "fnPareto", fn := fun _ => fun
  | [d] => { results := [.lit (.bool false)], args := [d] }
  | _ => none }
def FnParetoWrongFalsely : Prop := fnParetoRow.holds Try.pinned (OpenSpec.ofChange fnParetoWrong)

/-- 'laws.FnEarliest': WHATEVER THE INPUT: true; the input reads as it did. -/
def fnEarliestSpec : ChangeSpec := { name := "fnEarliest", fn := fun _ => fun
  | [d] => { results := [.lit (.bool true)], args := [d] }
  | _ => none }
def fnEarliestRow : OpenClaim := { program := "ytmcpafflnccfaaa", sum := "3591a00eec8102e52156d04640a0cffc77c719d2ca748f983625aa822316041a", func := "loop.example/g00900/laws.FnEarliest", spec := "fnEarliest", unfollowed := true, recurses := true, plainKeys := false, apart := false }
def FnEarliestSaid : Prop := fnEarliestRow.holds Try.pinned (OpenSpec.ofChange fnEarliestSpec)

/-- ITS FALSE NEIGHBOUR: 'it returns false'. Refute it at one input. -/
def fnEarliestWrong : ChangeSpec := { name := "fnEarliest", fn := fun _ => fun
  | [d] => { results := [.lit (.bool false)], args := [d] }
  | _ => none }
def FnEarliestWrongFalsely : Prop := fnEarliestRow.holds Try.pinned (OpenSpec.ofChange fnEarliestWrong)

/- THE SECOND FORM. 'bulk': how many values and letters a reading holds, each counted each time it is reached (what is shared counts as often as it is met; a slice's spare places count too). A statement '..UptoSaid' is the law's where the arguments, and the package variables that the reading takes, are together of bulk at most 1048576: NARROWER than '..Said'. Prove '..Said' where nothing that the law and all that it calls make is longer than what came in: it says more and counts as full. Else prove '..UptoSaid'. A law counts once. -/
mutual
def uptoBulk {H : Type} : DataW H → Nat
  | .lit (.string bytes) => bytes.length + 1
  | .lit _ => 1
  | .nil => 1
  | .ptr d => uptoBulk d + 1
  | .slice elems spare => uptoBulkAll elems + uptoBulkAll spare + 1
  | .agg parts => uptoBulkAll parts + 1
  | .iface _ d => uptoBulk d + 1
  | .map entries => uptoBulkEntries entries + 1
  | .held _ => 1
def uptoBulkAll {H : Type} : List (DataW H) → Nat
  | [] => 0
  | d :: r => uptoBulk d + uptoBulkAll r
def uptoBulkEntries {H : Type} : List (Lit × DataW H) → Nat
  | [] => 0
  | x :: r => uptoBulkEntry x + uptoBulkEntries r
def uptoBulkEntry {H : Type} : Lit × DataW H → Nat
  | (.string bytes, d) => bytes.length + uptoBulk d + 1
  | (_, d) => uptoBulk d + 1
 end
def uptoSmall : (H : Type) → List (DataW H) → Bool := fun _ ds => decide (uptoBulkAll ds ≤ 1048576)
def OpenSpec.upto (s : _root_.Go.ChangeSpec) : _root_.Go.OpenSpec := { _root_.Go.OpenSpec.ofChange s with cond := some uptoSmall }

/-- 'laws.FnExactEarliestJourney', WHERE WHAT IT READS IS OF BULK AT MOST 1048576: true; the input reads as it did. -/
def fnExactEarliestJourneyUptoRow : OpenClaim := { program := "ytmcpafflnccfaaa", sum := "3591a00eec8102e52156d04640a0cffc77c719d2ca748f983625aa822316041a", func := "loop.example/g00900/laws.FnExactEarliestJourney", spec := "fnExactEarliestJourney", unfollowed := true, recurses := true, plainKeys := false, apart := false, narrowed := true }
def FnExactEarliestJourneyUptoSaid : Prop := fnExactEarliestJourneyUptoRow.holds Try.pinned (OpenSpec.upto fnExactEarliestJourneySpec)

/-- 'laws.FnExactSurvivesDelay', WHERE WHAT IT READS IS OF BULK AT MOST 1048576: true; the input reads as it did. -/
def fnExactSurvivesDelayUptoRow : OpenClaim := { program := "ytmcpafflnccfaaa", sum := "3591a00eec8102e52156d04640a0cffc77c719d2ca748f983625aa822316041a", func := "loop.example/g00900/laws.FnExactSurvivesDelay", spec := "fnExactSurvivesDelay", unfollowed := true, recurses := true, plainKeys := false, apart := false, narrowed := true }
def FnExactSurvivesDelayUptoSaid : Prop := fnExactSurvivesDelayUptoRow.holds Try.pinned (OpenSpec.upto fnExactSurvivesDelaySpec)

/-- 'laws.FnExactSlackOf', WHERE WHAT IT READS IS OF BULK AT MOST 1048576: true; the input reads as it did. -/
def fnExactSlackOfUptoRow : OpenClaim := { program := "ytmcpafflnccfaaa", sum := "3591a00eec8102e52156d04640a0cffc77c719d2ca748f983625aa822316041a", func := "loop.example/g00900/laws.FnExactSlackOf", spec := "fnExactSlackOf", plainKeys := false, apart := false, narrowed := true }
def FnExactSlackOfUptoSaid : Prop := fnExactSlackOfUptoRow.holds Try.pinned (OpenSpec.upto fnExactSlackOfSpec)

/-- 'laws.FnSlack', WHERE WHAT IT READS IS OF BULK AT MOST 1048576: true; the input reads as it did. -/
def fnSlackUptoRow : OpenClaim := { program := "ytmcpafflnccfaaa", sum := "3591a00eec8102e52156d04640a0cffc77c719d2ca748f983625aa822316041a", func := "loop.example/g00900/laws.FnSlack", spec := "fnSlack", unfollowed := true, recurses := true, plainKeys := false, apart := false, narrowed := true }
def FnSlackUptoSaid : Prop := fnSlackUptoRow.holds Try.pinned (OpenSpec.upto fnSlackSpec)

/-- 'laws.FnJourneyTimes', WHERE WHAT IT READS IS OF BULK AT MOST 1048576: true; the input reads as it did. -/
def fnJourneyTimesUptoRow : OpenClaim := { program := "ytmcpafflnccfaaa", sum := "3591a00eec8102e52156d04640a0cffc77c719d2ca748f983625aa822316041a", func := "loop.example/g00900/laws.FnJourneyTimes", spec := "fnJourneyTimes", unfollowed := true, recurses := true, plainKeys := false, apart := false, narrowed := true }
def FnJourneyTimesUptoSaid : Prop := fnJourneyTimesUptoRow.holds Try.pinned (OpenSpec.upto fnJourneyTimesSpec)

/-- 'laws.FnExactParetoJourneys', WHERE WHAT IT READS IS OF BULK AT MOST 1048576: true; the input reads as it did. -/
def fnExactParetoJourneysUptoRow : OpenClaim := { program := "ytmcpafflnccfaaa", sum := "3591a00eec8102e52156d04640a0cffc77c719d2ca748f983625aa822316041a", func := "loop.example/g00900/laws.FnExactParetoJourneys", spec := "fnExactParetoJourneys", unfollowed := true, recurses := true, plainKeys := false, apart := false, narrowed := true }
def FnExactParetoJourneysUptoSaid : Prop := fnExactParetoJourneysUptoRow.holds Try.pinned (OpenSpec.upto fnExactParetoJourneysSpec)

/-- 'laws.FnPareto', WHERE WHAT IT READS IS OF BULK AT MOST 1048576: true; the input reads as it did. -/
def fnParetoUptoRow : OpenClaim := { program := "ytmcpafflnccfaaa", sum := "3591a00eec8102e52156d04640a0cffc77c719d2ca748f983625aa822316041a", func := "loop.example/g00900/laws.FnPareto", spec := "fnPareto", unfollowed := true, recurses := true, plainKeys := false, apart := false, narrowed := true }
def FnParetoUptoSaid : Prop := fnParetoUptoRow.holds Try.pinned (OpenSpec.upto fnParetoSpec)

/-- 'laws.FnEarliest', WHERE WHAT IT READS IS OF BULK AT MOST 1048576: true; the input reads as it did. -/
def fnEarliestUptoRow : OpenClaim := { program := "ytmcpafflnccfaaa", sum := "3591a00eec8102e52156d04640a0cffc77c719d2ca748f983625aa822316041a", func := "loop.example/g00900/laws.FnEarliest", spec := "fnEarliest", unfollowed := true, recurses := true, plainKeys := false, apart := false, narrowed := true }
def FnEarliestUptoSaid : Prop := fnEarliestUptoRow.holds Try.pinned (OpenSpec.upto fnEarliestSpec)

end Rows
end Go.Proofs.Ytmcpafflnccfaaa
