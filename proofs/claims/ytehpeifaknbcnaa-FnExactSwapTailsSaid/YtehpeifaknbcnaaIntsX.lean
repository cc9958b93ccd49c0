import Derived.Test.YtehpeifaknbcnaaMk04
namespace Go.Proofs.Ytehpeifaknbcnaa
open Go.RowKit
set_option linter.unusedVariables false

def IntsSmall (xs : List Int) : Prop := xs.length ≤ 1048576

theorem eqIntS_x (v v' : Value) (xs : List Int) (w : World) (hr : RowAt w v (ints xs)) (hr' : RowAt w v' (ints xs)) (hs : IntsSmall xs) :
    Calls Try.prog 71 #[v, v'] w fun e w' => e = .returned (.bool true) ∧ Below w.heap.size w w' := eqIntS_same v v' xs w hr hr'

def IntsMk (k : Int) (w : World) (v : Value) (xs : List Int) : Prop := RowAt w v (ints (countUp k xs.length))
theorem IntsMk.later {k : Int} {w w' : World} {v : Value} {xs : List Int} (h : IntsMk k w v xs) (hb : Below w.heap.size w w') : IntsMk k w' v xs := RowAt.below h rfl hb

theorem heldIntS_x (v : Value) (xs : List Int) (k : Int) (w : World) (hr : IntsMk k w v xs) (hs : IntsSmall xs) (hk0 : 0 ≤ k) (hk : k ≤ 1073741824) :
    Calls Try.prog 89 #[v, .int .i64 k] w fun e w' => e = .returned (.int .i64 (k + (xs.length : Int))) ∧ Below w.heap.size w w' :=
  (heldIntS_own v k xs.length w hr hs hk0 hk).mono fun e w' ⟨he, hw⟩ => ⟨he, by subst hw; exact Below.refl _ _⟩
end Go.Proofs.Ytehpeifaknbcnaa
