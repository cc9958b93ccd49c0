/-
  impl.boarding as a map's key.
-/
import Derived.Test.YtmcpafflnccfaaaHdrMap
import Derived.Test.YtmcpafflnccfaaaRows
import Derived.DeepKeys4
namespace Go.Proofs.Ytmcpafflnccfaaa
open Go.RowKit Go.Maps
set_option linter.unusedVariables false

def bV (s t n : Int) : Value := .agg #[.int .i64 s, .int .i64 t, .int .i64 n]
set_option maxRecDepth 100000 in
theorem keyedB : Keyed Try.prog 93 :=
  Keyed.of_law (deep_law (m := 2) (by omega) (by kernel_rfl) (by kernel_rfl) (by rw [Try.underlying93]))
theorem cellsB : Try.prog.cellsOf 93 = 3 := by kernel_rfl
theorem cellsI : Try.prog.cellsOf 3 = 1 := by kernel_rfl
set_option maxRecDepth 100000 in
theorem keyB {s t n : Int} (hs : (Lit.int .i64 s).wf = true) (ht : (Lit.int .i64 t).wf = true) (hn : (Lit.int .i64 n).wf = true) : ∃ kl, keyOf Try.prog 93 (bV s t n) = some kl := by
  have h1 : Try.prog.keyType 93 = true := by kernel_rfl
  have h2 : (bV s t n).formed Try.prog 93 = true := by
    unfold bV Value.formed
    rw [Try.underlying93]
    simp [cellsB]
  have hpos : 0 < Try.prog.types.size := of_decide_eq_true (by kernel_rfl)
  obtain ⟨d, hd⟩ : ∃ d, Try.prog.types.size = d + 1 := ⟨Try.prog.types.size - 1, by omega⟩
  have h3 : ∀ (x : Int), (Lit.int .i64 x).wf = true → Try.prog.keyLits (d + 1) 3 [.int .i64 x] = some [.int .i64 x] := fun x hx => by
    unfold Program.keyLits
    rw [Try.underlying3]
    simp [hx]
  have h4 : Try.prog.keyLits (d + 1 + 1) 93 [.int .i64 s, .int .i64 t, .int .i64 n] = some [.int .i64 s, .int .i64 t, .int .i64 n] := by
    unfold Program.keyLits
    rw [Try.underlying93]
    simp [cellsB, cellsI, h3 s hs, h3 t ht, h3 n hn]
  refine ⟨.string (keyBytes [.int .i64 s, .int .i64 t, .int .i64 n]), ?_⟩
  unfold keyOf
  rw [Try.underlying93]
  simp only [h1, h2, Bool.and_self, if_true]
  rw [hd]
  show ((Try.prog.keyLits (d + 1 + 1) 93 [.int .i64 s, .int .i64 t, .int .i64 n]).map fun ls => Lit.string (keyBytes ls)) = _
  rw [h4]
  rfl
end Go.Proofs.Ytmcpafflnccfaaa
