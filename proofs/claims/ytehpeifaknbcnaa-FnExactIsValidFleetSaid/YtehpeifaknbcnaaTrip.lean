import Derived.Test.YtehpeifaknbcnaaSlices
import Derived.Test.YtehpeifaknbcnaaInts
import Derived.WalkKit
namespace Go.Proofs.Ytehpeifaknbcnaa
open Go.RowKit Go.ChangeShapes Go.WideShapes Go.ChangeAt Go.Deep Go.Joins
set_option linter.unusedVariables false

structure TripD where
  id : Int
  line : Int
  start : Int
deriving DecidableEq
section
variable {H : Type} {enc : TypeId × Value → H} {P : Program} {w : World} {base : Nat} {spare : Nat → Bool} {held : Bool}

end
end Go.Proofs.Ytehpeifaknbcnaa
