import Derived.Test.YtemejcbilhcebaaIntsLaw
import Derived.Test.YtemejcbilhcebaaCal
namespace Go.Proofs.Ytemejcbilhcebaa
open Go.RowKit
set_option linter.unusedVariables false

theorem own_grown {w w' : World} {B : Nat} {e : TypeId} {sz : Nat} {v : Value} {n : Nat} {xs : List Value} {row : Option Nat} (h : w.ownsRow B e sz v n xs) (hg : w.grownBy w' row) (hne : v.ownBlock = none ∨ row ≠ v.ownBlock) : w'.ownsRow B e sz v n xs :=
  own_block h (fun g hgg => hg.block g (h.lt g hgg).2 (fun e => by
    rcases hne with h0 | h0
    · rw [h0] at hgg; cases hgg
    · exact h0 (by rw [hgg, e])))

end Go.Proofs.Ytemejcbilhcebaa
