/-
  No cell of these rows narrows 'for every input' (looked for: loops, veiled, ifaces, maps, wideKeys, modest, calm, conditions, laid).
  DERIVED. THE GIVEN ROWS OF THIS SEAT. 10 by the template 'for every input the law returns true; each argument reads behind the call as it read before'; 0 by the template 'total and deterministic' (their statements: YtenbplehiaofmaaTotals.lean).
  GIVEN WITH THE SEED: the statements are not yours to turn. If you find one false, say at which input.
  Laid BY PROGRAM, IN A SANDBOX (cutbox-rows.mjs): the forced cells as the released guide's own fill.sh prints them over the translation 80f9481231a9f222… (all of the seat's roots in one cut). By AI agents, Wed Nov 11 2026. No macro, syntax, notation, axiom, sorry.
-/
import Derived.Test.YtenbplehiaofmaaChecked
import GoSem.Claim
import GoSem.ClaimJoined
import GoSem.ClaimMapViews
import Derived.JoinedTies
import Derived.KernelRfl
namespace Go.Proofs.Ytenbplehiaofmaa
/- THE CELL 'sum', in the pinned program and in every row, IS THE sha256 OF THE DUMP (.gsa) THAT YtenbplehiaofmaaProg.lean LOADS. Nothing in Lean hashes anything: it is a label: what it is worth is what the hold of that sum in a sandbox is worth. -/
noncomputable def Try.pinned : Pinned := { name := "ytenbplehiaofmaa", sum := "80f9481231a9f222dc1d5c10b7b64be601fe566ae51936668175f0ced87fb263", checked := Try.checked }
namespace Rows
def none {H : Type} : Left H := { results := [], args := [] }

/-- 'laws.FnSpans': WHATEVER THE INPUT: true; the input reads as it did. -/
def fnSpansSpec : ChangeSpec := { name := "fnSpans", fn := fun _ => fun
  | [d] => { results := [.lit (.bool true)], args := [d] }
  | _ => none }
def fnSpansRow : OpenClaim := { program := "ytenbplehiaofmaa", sum := "80f9481231a9f222dc1d5c10b7b64be601fe566ae51936668175f0ced87fb263", func := "loop.example/g00900/laws.FnSpans", spec := "fnSpans", unfollowed := true, recurses := true, apart := false }
def FnSpansSaid : Prop := fnSpansRow.holds Try.pinned (OpenSpec.ofChange fnSpansSpec)

/-- ITS FALSE NEIGHBOUR: 'it returns false'. Refute it at one input. -/
def fnSpansWrong : ChangeSpec := { name := "fnSpans", fn := fun _ => fun
  | [d] => { results := [.lit (.bool false)], args := [d] }
  | _ => none }
def FnSpansWrongFalsely : Prop := fnSpansRow.holds Try.pinned (OpenSpec.ofChange fnSpansWrong)

/-- 'laws.FnExactIsValidTime': WHATEVER THE INPUT: true; the input reads as it did. -/
def fnExactIsValidTimeSpec : ChangeSpec := { name := "fnExactIsValidTime", fn := fun _ => fun
  | [d] => { results := [.lit (.bool true)], args := [d] }
  | _ => none }
def fnExactIsValidTimeRow : OpenClaim := { program := "ytenbplehiaofmaa", sum := "80f9481231a9f222dc1d5c10b7b64be601fe566ae51936668175f0ced87fb263", func := "loop.example/g00900/laws.FnExactIsValidTime", spec := "fnExactIsValidTime", apart := false }
def FnExactIsValidTimeSaid : Prop := fnExactIsValidTimeRow.holds Try.pinned (OpenSpec.ofChange fnExactIsValidTimeSpec)

/-- ITS FALSE NEIGHBOUR: 'it returns false'. Refute it at one input. -/
def fnExactIsValidTimeWrong : ChangeSpec := { name := "fnExactIsValidTime", fn := fun _ => fun
  | [d] => { results := [.lit (.bool false)], args := [d] }
  | _ => none }
def FnExactIsValidTimeWrongFalsely : Prop := fnExactIsValidTimeRow.holds Try.pinned (OpenSpec.ofChange fnExactIsValidTimeWrong)

/-- 'laws.FnExactFormatTime': WHATEVER THE INPUT: true; the input reads as it did. -/
def fnExactFormatTimeSpec : ChangeSpec := { name := "fnExactFormatTime", fn := fun _ => fun
  | [d] => { results := [.lit (.bool true)], args := [d] }
  | _ => none }
def fnExactFormatTimeRow : OpenClaim := { program := "ytenbplehiaofmaa", sum := "80f9481231a9f222dc1d5c10b7b64be601fe566ae51936668175f0ced87fb263", func := "loop.example/g00900/laws.FnExactFormatTime", spec := "fnExactFormatTime", apart := false }
def FnExactFormatTimeSaid : Prop := fnExactFormatTimeRow.holds Try.pinned (OpenSpec.ofChange fnExactFormatTimeSpec)

/-- ITS FALSE NEIGHBOUR: 'it returns false'. Refute it at one input. -/
def fnExactFormatTimeWrong : ChangeSpec := { name := "fnExactFormatTime", fn := fun _ => fun
  | [d] => { results := [.lit (.bool false)], args := [d] }
  | _ => none }
def FnExactFormatTimeWrongFalsely : Prop := fnExactFormatTimeRow.holds Try.pinned (OpenSpec.ofChange fnExactFormatTimeWrong)

/-- 'laws.FnExactParseTime': WHATEVER THE INPUT: true; the input reads as it did. -/
def fnExactParseTimeSpec : ChangeSpec := { name := "fnExactParseTime", fn := fun _ => fun
  | [d] => { results := [.lit (.bool true)], args := [d] }
  | _ => none }
def fnExactParseTimeRow : OpenClaim := { program := "ytenbplehiaofmaa", sum := "80f9481231a9f222dc1d5c10b7b64be601fe566ae51936668175f0ced87fb263", func := "loop.example/g00900/laws.FnExactParseTime", spec := "fnExactParseTime", apart := false }
def FnExactParseTimeSaid : Prop := fnExactParseTimeRow.holds Try.pinned (OpenSpec.ofChange fnExactParseTimeSpec)

/-- ITS FALSE NEIGHBOUR: 'it returns false'. Refute it at one input. -/
def fnExactParseTimeWrong : ChangeSpec := { name := "fnExactParseTime", fn := fun _ => fun
  | [d] => { results := [.lit (.bool false)], args := [d] }
  | _ => none }
def FnExactParseTimeWrongFalsely : Prop := fnExactParseTimeRow.holds Try.pinned (OpenSpec.ofChange fnExactParseTimeWrong)

/-- 'laws.FnExactClockTime': WHATEVER THE INPUT: true; the input reads as it did. -/
def fnExactClockTimeSpec : ChangeSpec := { name := "fnExactClockTime", fn := fun _ => fun
  | [d] => { results := [.lit (.bool true)], args := [d] }
  | _ => none }
def fnExactClockTimeRow : OpenClaim := { program := "ytenbplehiaofmaa", sum := "80f9481231a9f222dc1d5c10b7b64be601fe566ae51936668175f0ced87fb263", func := "loop.example/g00900/laws.FnExactClockTime", spec := "fnExactClockTime", apart := false }
def FnExactClockTimeSaid : Prop := fnExactClockTimeRow.holds Try.pinned (OpenSpec.ofChange fnExactClockTimeSpec)

/-- ITS FALSE NEIGHBOUR: 'it returns false'. Refute it at one input. -/
def fnExactClockTimeWrong : ChangeSpec := { name := "fnExactClockTime", fn := fun _ => fun
  | [d] => { results := [.lit (.bool false)], args := [d] }
  | _ => none }
def FnExactClockTimeWrongFalsely : Prop := fnExactClockTimeRow.holds Try.pinned (OpenSpec.ofChange fnExactClockTimeWrong)

/-- 'laws.FnExactOverlapOf': WHATEVER THE INPUT: true; the input reads as it did. -/
def fnExactOverlapOfSpec : ChangeSpec := { name := "fnExactOverlapOf", fn := fun _ => fun
  | [d1, d2] => { results := [.lit (.bool true)], args := [d1, d2] }
  | _ => none }
def fnExactOverlapOfRow : OpenClaim := { program := "ytenbplehiaofmaa", sum := "80f9481231a9f222dc1d5c10b7b64be601fe566ae51936668175f0ced87fb263", func := "loop.example/g00900/laws.FnExactOverlapOf", spec := "fnExactOverlapOf", apart := false }
def FnExactOverlapOfSaid : Prop := fnExactOverlapOfRow.holds Try.pinned (OpenSpec.ofChange fnExactOverlapOfSpec)

/-- ITS FALSE NEIGHBOUR: 'it returns false'. Refute it at one input. -/
def fnExactOverlapOfWrong : ChangeSpec := { name := "fnExactOverlapOf", fn := fun _ => fun
  | [d1, d2] => { results := [.lit (.bool false)], args := [d1, d2] }
  | _ => none }
def FnExactOverlapOfWrongFalsely : Prop := fnExactOverlapOfRow.holds Try.pinned (OpenSpec.ofChange fnExactOverlapOfWrong)

/-- 'laws.FnExactMergeSpans': WHATEVER THE INPUT: true; the input reads as it did. -/
def fnExactMergeSpansSpec : ChangeSpec := { name := "fnExactMergeSpans", fn := fun _ => fun
  | [d] => { results := [.lit (.bool true)], args := [d] }
  | _ => none }
def fnExactMergeSpansRow : OpenClaim := { program := "ytenbplehiaofmaa", sum := "80f9481231a9f222dc1d5c10b7b64be601fe566ae51936668175f0ced87fb263", func := "loop.example/g00900/laws.FnExactMergeSpans", spec := "fnExactMergeSpans", unfollowed := true, recurses := true, apart := false }
def FnExactMergeSpansSaid : Prop := fnExactMergeSpansRow.holds Try.pinned (OpenSpec.ofChange fnExactMergeSpansSpec)

/-- ITS FALSE NEIGHBOUR: 'it returns false'. Refute it at one input. -/
def fnExactMergeSpansWrong : ChangeSpec := { name := "fnExactMergeSpans", fn := fun _ => fun
  | [d] => { results := [.lit (.bool false)], args := [d] }
  | _ => none }
def FnExactMergeSpansWrongFalsely : Prop := fnExactMergeSpansRow.holds Try.pinned (OpenSpec.ofChange fnExactMergeSpansWrong)

/-- 'laws.FnExactFreeSpans': WHATEVER THE INPUT: true; the input reads as it did. -/
def fnExactFreeSpansSpec : ChangeSpec := { name := "fnExactFreeSpans", fn := fun _ => fun
  | [d1, d2] => { results := [.lit (.bool true)], args := [d1, d2] }
  | _ => none }
def fnExactFreeSpansRow : OpenClaim := { program := "ytenbplehiaofmaa", sum := "80f9481231a9f222dc1d5c10b7b64be601fe566ae51936668175f0ced87fb263", func := "loop.example/g00900/laws.FnExactFreeSpans", spec := "fnExactFreeSpans", unfollowed := true, recurses := true, apart := false }
def FnExactFreeSpansSaid : Prop := fnExactFreeSpansRow.holds Try.pinned (OpenSpec.ofChange fnExactFreeSpansSpec)

/-- ITS FALSE NEIGHBOUR: 'it returns false'. Refute it at one input. -/
def fnExactFreeSpansWrong : ChangeSpec := { name := "fnExactFreeSpans", fn := fun _ => fun
  | [d1, d2] => { results := [.lit (.bool false)], args := [d1, d2] }
  | _ => none }
def FnExactFreeSpansWrongFalsely : Prop := fnExactFreeSpansRow.holds Try.pinned (OpenSpec.ofChange fnExactFreeSpansWrong)

/-- 'laws.FnExactTotalMinutes': WHATEVER THE INPUT: true; the input reads as it did. -/
def fnExactTotalMinutesSpec : ChangeSpec := { name := "fnExactTotalMinutes", fn := fun _ => fun
  | [d] => { results := [.lit (.bool true)], args := [d] }
  | _ => none }
def fnExactTotalMinutesRow : OpenClaim := { program := "ytenbplehiaofmaa", sum := "80f9481231a9f222dc1d5c10b7b64be601fe566ae51936668175f0ced87fb263", func := "loop.example/g00900/laws.FnExactTotalMinutes", spec := "fnExactTotalMinutes", unfollowed := true, recurses := true, apart := false }
def FnExactTotalMinutesSaid : Prop := fnExactTotalMinutesRow.holds Try.pinned (OpenSpec.ofChange fnExactTotalMinutesSpec)

/-- ITS FALSE NEIGHBOUR: 'it returns false'. Refute it at one input. -/
def fnExactTotalMinutesWrong : ChangeSpec := { name := "fnExactTotalMinutes", fn := fun _ => fun
  | [d] => { results := [.lit (.bool false)], args := [d] }
  | _ => none }
def FnExactTotalMinutesWrongFalsely : Prop := fnExactTotalMinutesRow.holds Try.pinned (OpenSpec.ofChange fnExactTotalMinutesWrong)

/-- 'laws.FnExactBusiestTime': WHATEVER THE INPUT: true; the input reads as it did. -/
def fnExactBusiestTimeSpec : ChangeSpec := { name := "fnExactBusiestTime", fn := fun _ => fun
  | [d] => { results := [.lit (.bool true)], args := [d] }
  | _ => none }
def fnExactBusiestTimeRow : OpenClaim := { program := "ytenbplehiaofmaa", sum := "80f9481231a9f222dc1d5c10b7b64be601fe566ae51936668175f0ced87fb263", func := "loop.example/g00900/laws.FnExactBusiestTime", spec := "fnExactBusiestTime", apart := false }
def FnExactBusiestTimeSaid : Prop := fnExactBusiestTimeRow.holds Try.pinned (OpenSpec.ofChange fnExactBusiestTimeSpec)

/-- ITS FALSE NEIGHBOUR: 'it returns false'. Refute it at one input. -/
def fnExactBusiestTimeWrong : ChangeSpec := { name := "fnExactBusiestTime", fn := fun _ => fun
  | [d] => { results := [.lit (.bool false)], args := [d] }
  | _ => none }
def FnExactBusiestTimeWrongFalsely : Prop := fnExactBusiestTimeRow.holds Try.pinned (OpenSpec.ofChange fnExactBusiestTimeWrong)

/- THE SECOND FORM. 'bulk': how many values and letters a reading holds, each counted each time it is reached (what is shared counts as often as it is met; a slice's spare places count too). A statement '..UptoSaid' is the law's where the arguments, and the package variables that the reading takes, are together of bulk at most 1048576: NARROWER than '..Said'. Prove '..Said' where nothing that the law and all that it calls make is longer than what came in: it says more and counts as full. Else prove '..UptoSaid'. A law counts once. -/
mutual
def uptoBulk {H : Type} : DataW H → Nat
  | .lit (.string bytes) => bytes.length + 1
  | .lit _ => 1
  | .nil => 1
  | .ptr d => uptoBulk d + 1
  | .slice elems spare => uptoBulkAll elems + uptoBulkAll spare + 1
  | .agg parts => uptoBulkAll parts + 1
  | .iface _ d => uptoBulk d + 1
  | .map entries => uptoBulkEntries entries + 1
  | .held _ => 1
def uptoBulkAll {H : Type} : List (DataW H) → Nat
  | [] => 0
  | d :: r => uptoBulk d + uptoBulkAll r
def uptoBulkEntries {H : Type} : List (Lit × DataW H) → Nat
  | [] => 0
  | x :: r => uptoBulkEntry x + uptoBulkEntries r
def uptoBulkEntry {H : Type} : Lit × DataW H → Nat
  | (.string bytes, d) => bytes.length + uptoBulk d + 1
  | (_, d) => uptoBulk d + 1
 end
def uptoSmall : (H : Type) → List (DataW H) → Bool := fun _ ds => decide (uptoBulkAll ds ≤ 1048576)
def OpenSpec.upto (s : _root_.Go.ChangeSpec) : _root_.Go.OpenSpec := { _root_.Go.OpenSpec.ofChange s with cond := some uptoSmall }

/-- 'laws.FnSpans', WHERE WHAT IT READS IS OF BULK AT MOST 1048576: true; the input reads as it did. -/
def fnSpansUptoRow : OpenClaim := { program := "ytenbplehiaofmaa", sum := "80f9481231a9f222dc1d5c10b7b64be601fe566ae51936668175f0ced87fb263", func := "loop.example/g00900/laws.FnSpans", spec := "fnSpans", unfollowed := true, recurses := true, apart := false, narrowed := true }
def FnSpansUptoSaid : Prop := fnSpansUptoRow.holds Try.pinned (OpenSpec.upto fnSpansSpec)

/-- 'laws.FnExactIsValidTime', WHERE WHAT IT READS IS OF BULK AT MOST 1048576: true; the input reads as it did. -/
def fnExactIsValidTimeUptoRow : OpenClaim := { program := "ytenbplehiaofmaa", sum := "80f9481231a9f222dc1d5c10b7b64be601fe566ae51936668175f0ced87fb263", func := "loop.example/g00900/laws.FnExactIsValidTime", spec := "fnExactIsValidTime", apart := false, narrowed := true }
def FnExactIsValidTimeUptoSaid : Prop := fnExactIsValidTimeUptoRow.holds Try.pinned (OpenSpec.upto fnExactIsValidTimeSpec)

/-- 'laws.FnExactFormatTime', WHERE WHAT IT READS IS OF BULK AT MOST 1048576: true; the input reads as it did. -/
def fnExactFormatTimeUptoRow : OpenClaim := { program := "ytenbplehiaofmaa", sum := "80f9481231a9f222dc1d5c10b7b64be601fe566ae51936668175f0ced87fb263", func := "loop.example/g00900/laws.FnExactFormatTime", spec := "fnExactFormatTime", apart := false, narrowed := true }
def FnExactFormatTimeUptoSaid : Prop := fnExactFormatTimeUptoRow.holds Try.pinned (OpenSpec.upto fnExactFormatTimeSpec)

/-- 'laws.FnExactParseTime', WHERE WHAT IT READS IS OF BULK AT MOST 1048576: true; the input reads as it did. -/
def fnExactParseTimeUptoRow : OpenClaim := { program := "ytenbplehiaofmaa", sum := "80f9481231a9f222dc1d5c10b7b64be601fe566ae51936668175f0ced87fb263", func := "loop.example/g00900/laws.FnExactParseTime", spec := "fnExactParseTime", apart := false, narrowed := true }
def FnExactParseTimeUptoSaid : Prop := fnExactParseTimeUptoRow.holds Try.pinned (OpenSpec.upto fnExactParseTimeSpec)

/-- 'laws.FnExactClockTime', WHERE WHAT IT READS IS OF BULK AT MOST 1048576: true; the input reads as it did. -/
def fnExactClockTimeUptoRow : OpenClaim := { program := "ytenbplehiaofmaa", sum := "80f9481231a9f222dc1d5c10b7b64be601fe566ae51936668175f0ced87fb263", func := "loop.example/g00900/laws.FnExactClockTime", spec := "fnExactClockTime", apart := false, narrowed := true }
def FnExactClockTimeUptoSaid : Prop := fnExactClockTimeUptoRow.holds Try.pinned (OpenSpec.upto fnExactClockTimeSpec)

/-- 'laws.FnExactOverlapOf', WHERE WHAT IT READS IS OF BULK AT MOST 1048576: true; the input reads as it did. -/
def fnExactOverlapOfUptoRow : OpenClaim := { program := "ytenbplehiaofmaa", sum := "80f9481231a9f222dc1d5c10b7b64be601fe566ae51936668175f0ced87fb263", func := "loop.example/g00900/laws.FnExactOverlapOf", spec := "fnExactOverlapOf", apart := false, narrowed := true }
def FnExactOverlapOfUptoSaid : Prop := fnExactOverlapOfUptoRow.holds Try.pinned (OpenSpec.upto fnExactOverlapOfSpec)

/-- 'laws.FnExactMergeSpans', WHERE WHAT IT READS IS OF BULK AT MOST 1048576: true; the input reads as it did. -/
def fnExactMergeSpansUptoRow : OpenClaim := { program := "ytenbplehiaofmaa", sum := "80f9481231a9f222dc1d5c10b7b64be601fe566ae51936668175f0ced87fb263", func := "loop.example/g00900/laws.FnExactMergeSpans", spec := "fnExactMergeSpans", unfollowed := true, recurses := true, apart := false, narrowed := true }
def FnExactMergeSpansUptoSaid : Prop := fnExactMergeSpansUptoRow.holds Try.pinned (OpenSpec.upto fnExactMergeSpansSpec)

/-- 'laws.FnExactFreeSpans', WHERE WHAT IT READS IS OF BULK AT MOST 1048576: true; the input reads as it did. -/
def fnExactFreeSpansUptoRow : OpenClaim := { program := "ytenbplehiaofmaa", sum := "80f9481231a9f222dc1d5c10b7b64be601fe566ae51936668175f0ced87fb263", func := "loop.example/g00900/laws.FnExactFreeSpans", spec := "fnExactFreeSpans", unfollowed := true, recurses := true, apart := false, narrowed := true }
def FnExactFreeSpansUptoSaid : Prop := fnExactFreeSpansUptoRow.holds Try.pinned (OpenSpec.upto fnExactFreeSpansSpec)

/-- 'laws.FnExactTotalMinutes', WHERE WHAT IT READS IS OF BULK AT MOST 1048576: true; the input reads as it did. -/
def fnExactTotalMinutesUptoRow : OpenClaim := { program := "ytenbplehiaofmaa", sum := "80f9481231a9f222dc1d5c10b7b64be601fe566ae51936668175f0ced87fb263", func := "loop.example/g00900/laws.FnExactTotalMinutes", spec := "fnExactTotalMinutes", unfollowed := true, recurses := true, apart := false, narrowed := true }
def FnExactTotalMinutesUptoSaid : Prop := fnExactTotalMinutesUptoRow.holds Try.pinned (OpenSpec.upto fnExactTotalMinutesSpec)

/-- 'laws.FnExactBusiestTime', WHERE WHAT IT READS IS OF BULK AT MOST 1048576: true; the input reads as it did. -/
def fnExactBusiestTimeUptoRow : OpenClaim := { program := "ytenbplehiaofmaa", sum := "80f9481231a9f222dc1d5c10b7b64be601fe566ae51936668175f0ced87fb263", func := "loop.example/g00900/laws.FnExactBusiestTime", spec := "fnExactBusiestTime", apart := false, narrowed := true }
def FnExactBusiestTimeUptoSaid : Prop := fnExactBusiestTimeUptoRow.holds Try.pinned (OpenSpec.upto fnExactBusiestTimeSpec)

end Rows
end Go.Proofs.Ytenbplehiaofmaa
