/-
  THE LAWS' MARKS on calendars (markCalendar, heldCalendar): a mark writes into the two rows and into nothing else.
-/
import Derived.Test.YtniankcjgcackaaCalX
namespace Go.Proofs.Ytniankcjgcackaa
open Go.RowKit
set_option linter.unusedVariables false

theorem own_grown {w w' : World} {B : Nat} {e : TypeId} {sz : Nat} {v : Value} {n : Nat} {xs : List Value} {row : Option Nat} (h : w.ownsRow B e sz v n xs) (hg : w.grownBy w' row) (hne : v.ownBlock = none ∨ row ≠ v.ownBlock) : w'.ownsRow B e sz v n xs :=
  own_block h (fun g hgg => hg.block g (h.lt g hgg).2 (fun e => by
    rcases hne with h0 | h0
    · rw [h0] at hgg; cases hgg
    · exact h0 (by rw [hgg, e])))

/-- a calendar that holds marks from k on -/
def CalMk (k : Int) (w : World) (v : Value) (c : CalD) : Prop :=
  ∃ av rv, v = .agg #[.int .i64 c.frm, .int .i64 c.too, .int .i64 c.wd, av, rv] ∧ IntsMk k w av c.added ∧ IntsMk (k + (c.added.length : Int)) w rv c.removed
theorem CalMk.later {k : Int} {w w' : World} {v : Value} {c : CalD} (h : CalMk k w v c) (hb : Below w.heap.size w w') : CalMk k w' v c := by
  obtain ⟨av, rv, hv, h1, h2⟩ := h
  exact ⟨av, rv, hv, h1.later hb, h2.later hb⟩

end Go.Proofs.Ytniankcjgcackaa
