/-
  CONTRACT of spec.ServedStops; both sides.
-/
import Derived.Test.YtfgkfdkdjegaiaaServedI
namespace Go.Proofs.Ytfgkfdkdjegaiaa
open Go.RowKit Go.Maps Jrn
set_option linter.unusedVariables false
set_option linter.unusedSimpArgs false

/-- a box for a line, as it is made -/
def Z3 (w : World) (B : Nat) : Prop := w.cell? ⟨B, 0, none⟩ = some (.string ⟨#[]⟩) ∧ w.cell? ⟨B, 1, none⟩ = some (.slice none 0 0) ∧ w.cell? ⟨B, 2, none⟩ = some (.slice none 0 0) ∧ B < w.heap.size ∧ ∀ o, w.frozen? ⟨B, o, none⟩ = false
theorem Z3.later {w w' : World} {B : Nat} (h : Z3 w B) (hb : Below w.heap.size w w') : Z3 w' B := by
  obtain ⟨h0, h1, h2, hl, hf⟩ := h
  exact ⟨bkeep hb h0, bkeep hb h1, bkeep hb h2, Nat.lt_of_lt_of_le hl hb.size, fun o => (World.frozen?_of_block (a := ⟨B, o, none⟩) (hb.block B hl)).trans (hf o)⟩
theorem Z3.new (w : World) : Z3 (w.alloc (.cells #[.string ⟨#[]⟩, .slice none 0 0, .slice none 0 0] 98)) w.heap.size :=
  ⟨by go_simp, by go_simp, by go_simp, by simp, fun o => by unfold World.frozen?; rw [(MapKept.heap_alloc w _).1]; simp⟩
/-- the model's list behind the first k legs -/
def spL (t : TTD) (cs : List LegD) (f0 : Int) (k : Nat) : List Int := if k = 0 then [] else [f0] ++ svF t cs k
theorem spL_succ (t : TTD) (cs : List LegD) (f0 : Int) (k : Nat) : spL t cs f0 (k + 1) = [f0] ++ svF t cs (k + 1) := if_neg (by omega)

end Go.Proofs.Ytfgkfdkdjegaiaa
