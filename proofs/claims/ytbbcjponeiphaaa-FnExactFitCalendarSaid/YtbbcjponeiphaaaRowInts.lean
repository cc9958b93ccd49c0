/-
  A []int that comes in with a row reads as numbers that fit.
-/
import Derived.Test.YtbbcjponeiphaaaInts
namespace Go.Proofs.Ytbbcjponeiphaaa
open Go.RowKit Go.ChangeShapes Go.WideShapes Go.ChangeAt Go.Deep Go.Joins

theorem rowAt_ints {H : Type} {enc : TypeId × Value → H} {P : Program} {W : World} {base base' : Nat} {spare : Nat → Bool} {held : Bool} {t e : TypeId} {v : Value} {d : DataW H} {p : List MemPlace} (ht : P.underlying t = some (.slice e)) (he : P.underlying e = some (.int .i64)) (hc : P.cellsOf e = 1)
    (hv : Value.okWide P W .any base t v) (h : DataW.Trod enc P W base' spare held t v d p) : ∃ xs : List Int, RowAt W v (ints xs) ∧ ∀ z ∈ xs, (Lit.int .i64 z).wf = true := by
  obtain ⟨a, len, cap, rfl⟩ := okWide_slice ht hv
  obtain ⟨fuel, hf⟩ := h
  exact ints_trod ht he hc (by simpa [Value.cells] using hf)
end Go.Proofs.Ytbbcjponeiphaaa
