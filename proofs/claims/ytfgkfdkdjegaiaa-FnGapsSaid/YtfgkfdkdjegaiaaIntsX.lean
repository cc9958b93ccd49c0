/-
  THE LAWS' HELPERS on slices of numbers, in the one form that the laws' walks take (szIntS, toIntS, eqIntS, markIntS, heldIntS).
-/
import Derived.Test.YtfgkfdkdjegaiaaIntsLaw
namespace Go.Proofs.Ytfgkfdkdjegaiaa
open Go.RowKit
set_option linter.unusedVariables false

def IntsSmall (xs : List Int) : Prop := xs.length ≤ 1048576

theorem toIntS_x (v : Value) (xs : List Int) (w : World) (hr : RowAt w v (ints xs)) (hs : IntsSmall xs) :
    Calls Try.prog 123 #[v] w fun e w' => ∃ a c, e = .returned (.slice a xs.length c) ∧ IntsIn w.heap.size w'.heap.size w' (.slice a xs.length c) xs ∧ Below w.heap.size w w' :=
  (toIntS_any v xs w hr hs).mono fun e w' ⟨c, he, ho, hb⟩ => ⟨_, c, he, IntsIn.mk ho, hb⟩

theorem eqIntS_x (v v' : Value) (xs : List Int) (w : World) (hr : RowAt w v (ints xs)) (hr' : RowAt w v' (ints xs)) (hs : IntsSmall xs) :
    Calls Try.prog 48 #[v, v'] w fun e w' => e = .returned (.bool true) ∧ Below w.heap.size w w' := eqIntS_same v v' xs w hr hr'

/-- numbers that hold marks from k on -/
def IntsMk (k : Int) (w : World) (v : Value) (xs : List Int) : Prop := RowAt w v (ints (countUp k xs.length))
theorem IntsMk.later {k : Int} {w w' : World} {v : Value} {xs : List Int} (h : IntsMk k w v xs) (hb : Below w.heap.size w w') : IntsMk k w' v xs := RowAt.below h rfl hb

theorem markIntS_x (v : Value) (xs : List Int) (k : Int) (l u : Nat) (w : World) (hr : IntsIn l u w v xs) (hl : l ≤ w.heap.size) (hs : IntsSmall xs) (hk0 : 0 ≤ k) (hk : k ≤ 1073741824) :
    Calls Try.prog 51 #[v, .int .i64 k] w fun e w' => e = .returned (.int .i64 (k + (xs.length : Int))) ∧ IntsMk k w' v xs ∧ w.grownBy w' v.ownBlock ∧ Out l u w w' :=
  (markIntS_own v xs k l w hr.1 hs hk0 hk).mono fun e w' ⟨he, ho, hg⟩ => ⟨he, rowAt_own (n := xs.length) ho, hg, Out.of_grown hg hl (fun g hg' => ⟨hr.lo g hg', hr.2 g hg'⟩)⟩

theorem heldIntS_x (v : Value) (xs : List Int) (k : Int) (w : World) (hr : IntsMk k w v xs) (hs : IntsSmall xs) (hk0 : 0 ≤ k) (hk : k ≤ 1073741824) :
    Calls Try.prog 52 #[v, .int .i64 k] w fun e w' => e = .returned (.int .i64 (k + (xs.length : Int))) ∧ Below w.heap.size w w' :=
  (heldIntS_own v k xs.length w hr hs hk0 hk).mono fun e w' ⟨he, hw⟩ => ⟨he, by subst hw; exact Below.refl _ _⟩
end Go.Proofs.Ytfgkfdkdjegaiaa
