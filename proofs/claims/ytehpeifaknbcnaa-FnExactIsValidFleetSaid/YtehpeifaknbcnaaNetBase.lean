import Derived.Test.YtehpeifaknbcnaaEqNet
import Derived.Test.YtehpeifaknbcnaaImplNet
namespace Go.Proofs.Ytehpeifaknbcnaa
open Go.RowKit
set_option linter.unusedVariables false

set_option maxRecDepth 100000 in
theorem netAt_of {H : Type} {enc : TypeId × Value → H} {W : World} {base base' : Nat} {spare : Nat → Bool} {held : Bool} {v : Value} {d : DataW H} {p : List MemPlace}
    (hv : Value.okWide Try.prog W .any base 25 v) (h : DataW.Trod enc Try.prog W base' spare held 25 v d p) : ∃ n, NetAt W v n ∧ NetFits n :=
  net_trod Try.underlying25 (by kernel_rfl) (by kernel_rfl) Try.underlying22 Try.underlying9 (by kernel_rfl) Try.underlying23 Try.underlying117 (by kernel_rfl) (by kernel_rfl)
    Try.underlying9 Try.underlying80 Try.underlying80 Try.underlying3 (by kernel_rfl) hv h

end Go.Proofs.Ytehpeifaknbcnaa
