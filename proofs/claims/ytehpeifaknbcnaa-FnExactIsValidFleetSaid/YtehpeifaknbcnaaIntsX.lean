import Derived.Test.YtehpeifaknbcnaaIntsLaw
namespace Go.Proofs.Ytehpeifaknbcnaa
open Go.RowKit
set_option linter.unusedVariables false

def IntsSmall (xs : List Int) : Prop := xs.length ≤ 1048576

theorem eqIntS_x (v v' : Value) (xs : List Int) (w : World) (hr : RowAt w v (ints xs)) (hr' : RowAt w v' (ints xs)) (hs : IntsSmall xs) :
    Calls Try.prog 71 #[v, v'] w fun e w' => e = .returned (.bool true) ∧ Below w.heap.size w w' := eqIntS_same v v' xs w hr hr'

end Go.Proofs.Ytehpeifaknbcnaa
