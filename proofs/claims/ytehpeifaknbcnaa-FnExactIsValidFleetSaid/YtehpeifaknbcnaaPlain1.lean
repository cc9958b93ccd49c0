import Derived.WalkKit
namespace Go.Proofs.Ytehpeifaknbcnaa
open Go.RowKit

theorem ret_int {k : IntKind} {a b : Int} (h : a = b) : Ending.returned (.int k a) = .returned (.int k b) := by rw [h]
end Go.Proofs.Ytehpeifaknbcnaa
