/-
  PLAIN FACTS on joined strings, of no program.
-/
import Derived.Test.YtffcgblionlhhaaStr
import Derived.Lib.Join
namespace Go.Proofs.Ytffcgblionlhhaa
open Go.RowKit
open Go.Lib
set_option linter.unusedVariables false

def jnL (c : UInt8) (xs : List ByteArray) : List UInt8 := Lib.join (xs.map (·.data.toList)) [c]
theorem jnL_one (c : UInt8) (x : ByteArray) : jnL c [x] = x.data.toList := by simp [jnL, Lib.join, List.intercalate]
theorem jnL_cons (c : UInt8) (x y : ByteArray) (xs : List ByteArray) : jnL c (x :: y :: xs) = x.data.toList ++ [c] ++ jnL c (y :: xs) := by
  simp [jnL, Lib.join, List.intercalate]
theorem jnL_snoc (c : UInt8) : ∀ (xs : List ByteArray) (x : ByteArray), xs ≠ [] → jnL c (xs ++ [x]) = jnL c xs ++ [c] ++ x.data.toList
  | [], _, h => absurd rfl h
  | [y], x, _ => by rw [List.cons_append, List.nil_append, jnL_cons, jnL_one, jnL_one]
  | y :: z :: r, x, _ => by
    rw [List.cons_append, List.cons_append, jnL_cons, ← List.cons_append, jnL_snoc c (z :: r) x (by simp), jnL_cons]
    simp
end Go.Proofs.Ytffcgblionlhhaa
