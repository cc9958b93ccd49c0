import Derived.WalkKit
namespace Go.Proofs.Ytehpeifaknbcnaa
set_option linter.unusedVariables false

abbrev SpanD := Int × Int
def TimeOk (t : Int) : Prop := 0 ≤ t ∧ t ≤ 1799
instance (t : Int) : Decidable (TimeOk t) := by unfold TimeOk; infer_instance
def SpanOk (s : SpanD) : Prop := TimeOk s.1 ∧ TimeOk s.2 ∧ s.1 ≤ s.2
instance (s : SpanD) : Decidable (SpanOk s) := by unfold SpanOk; infer_instance
def SpansOk (l : List SpanD) : Prop := l.length ≤ 20 ∧ ∀ s ∈ l, SpanOk s
instance (l : List SpanD) : Decidable (SpansOk l) := by unfold SpansOk; infer_instance
end Go.Proofs.Ytehpeifaknbcnaa
