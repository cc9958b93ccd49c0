import Derived.Test.YtemejcbilhcebaaInts
import Derived.Test.YtemejcbilhcebaaCalP
namespace Go.Proofs.Ytemejcbilhcebaa
open Go.RowKit Go.ChangeShapes Go.WideShapes Go.ChangeAt Go.Deep Go.Joins
set_option linter.unusedVariables false

def CalAt (w : World) (v : Value) (c : CalD) : Prop :=
  ∃ av rv, v = .agg #[.int .i64 c.frm, .int .i64 c.too, .int .i64 c.wd, av, rv] ∧ RowAt w av (ints c.added) ∧ RowAt w rv (ints c.removed)
theorem CalAt.below {w w' : World} {v : Value} {c : CalD} (h : CalAt w v c) {B : Nat} (hB : B = w.heap.size) (hb : Below B w w') : CalAt w' v c := by
  obtain ⟨av, rv, hv, h1, h2⟩ := h
  exact ⟨av, rv, hv, h1.below hB hb, h2.below hB hb⟩
theorem CalAt.drew {w : World} {v : Value} {c : CalD} (h : CalAt w v c) (m : Nat) : CalAt (w.drewN m) v c := h

def CalIn (l u : Nat) (w : World) (v : Value) (c : CalD) : Prop :=
  ∃ av rv, v = .agg #[.int .i64 c.frm, .int .i64 c.too, .int .i64 c.wd, av, rv] ∧ IntsIn l u w av c.added ∧ IntsIn l u w rv c.removed ∧ (av.ownBlock = none ∨ av.ownBlock ≠ rv.ownBlock)
theorem CalIn.at {l u : Nat} {w : World} {v : Value} {c : CalD} (h : CalIn l u w v c) : CalAt w v c := by
  obtain ⟨av, rv, hv, h1, h2, _⟩ := h
  exact ⟨av, rv, hv, h1.at, h2.at⟩
theorem CalIn.later {l u : Nat} {w w' : World} {v : Value} {c : CalD} (h : CalIn l u w v c) (hb : Below w.heap.size w w') : CalIn l u w' v c := by
  obtain ⟨av, rv, hv, h1, h2, h3⟩ := h
  exact ⟨av, rv, hv, h1.later hb, h2.later hb, h3⟩
theorem CalIn.out {l u lo hi : Nat} {w w' : World} {v : Value} {c : CalD} (h : CalIn l u w v c) (ho : Out lo hi w w') (hs : u ≤ lo ∨ hi ≤ l) : CalIn l u w' v c := by
  obtain ⟨av, rv, hv, h1, h2, h3⟩ := h
  exact ⟨av, rv, hv, h1.out ho hs, h2.out ho hs, h3⟩
theorem CalIn.base {l l' u u' : Nat} {w : World} {v : Value} {c : CalD} (h : CalIn l u w v c) (hl : l' ≤ l) (hu : u ≤ u') : CalIn l' u' w v c := by
  obtain ⟨av, rv, hv, h1, h2, h3⟩ := h
  exact ⟨av, rv, hv, h1.base hl hu, h2.base hl hu, h3⟩
theorem Calendar_open {w : World} {v : Value} {c : CalD} (h : CalAt w v c) : ∃ a1 c1 a2 c2, v = .agg #[.int .i64 c.frm, .int .i64 c.too, .int .i64 c.wd, .slice a1 c.added.length c1, .slice a2 c.removed.length c2] := by
  obtain ⟨av, rv, rfl, h1, h2⟩ := h
  obtain ⟨a1, c1, rfl, _⟩ := ints_open h1
  obtain ⟨a2, c2, rfl, _⟩ := ints_open h2
  exact ⟨a1, c1, a2, c2, rfl⟩

section
variable {H : Type} {enc : TypeId × Value → H} {P : Program} {w : World} {base : Nat} {spare : Nat → Bool} {held : Bool}
end
end Go.Proofs.Ytemejcbilhcebaa
