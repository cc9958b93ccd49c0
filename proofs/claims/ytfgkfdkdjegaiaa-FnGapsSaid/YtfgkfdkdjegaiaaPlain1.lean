/-
  PLAIN FACTS of chapter 1, of no program: the checksum as a fold over bytes. Checks nothing of the code by itself.
-/
import Derived.WalkKit
namespace Go.Proofs.Ytfgkfdkdjegaiaa
open Go.RowKit

/-- the checksum of a list of bytes -/
def sumL (l : List UInt8) : Int := l.foldl (fun h c => (41 * h + (c.toNat : Int) + 1) % 999979) 7

theorem sumL_snoc (l : List UInt8) (c : UInt8) : sumL (l ++ [c]) = (41 * sumL l + (c.toNat : Int) + 1) % 999979 := by
  simp [sumL, List.foldl_append]

theorem sumL_bd (l : List UInt8) : 0 ≤ sumL l ∧ sumL l < 999979 := by
  rcases List.eq_nil_or_concat l with rfl | ⟨t, c, rfl⟩
  · decide
  · rw [List.concat_eq_append, sumL_snoc]; omega

theorem take_snoc (s : ByteArray) (k : Nat) (h : k < s.size) : s.data.toList.take (k + 1) = s.data.toList.take k ++ [s[k]] := by
  rw [List.take_succ_eq_append_getElem (by simpa using h)]; rfl

theorem ret_int {k : IntKind} {a b : Int} (h : a = b) : Ending.returned (.int k a) = .returned (.int k b) := by rw [h]
theorem ret_int_b {k : IntKind} {a b : Int} {c : Bool} (h : a = b) : Ending.returned (.tuple #[.int k a, .bool c]) = .returned (.tuple #[.int k b, .bool c]) := by rw [h]
theorem ret_bool {a b : Bool} (h : a = b) : Ending.returned (.bool a) = .returned (.bool b) := by rw [h]
theorem byte_lt (s : ByteArray) (k : Nat) (h : k < s.size) : ((s[k]'h).toNat : Int) < 256 := by have := (s[k]'h).toNat_lt; omega
end Go.Proofs.Ytfgkfdkdjegaiaa
