/-
  PLAIN FACTS: a returned string by its bytes; one digit out of the row of ten.
-/
import Derived.WalkKit
namespace Go.Proofs.Ytfgkfdkdjegaiaa
theorem ret_str {a b : ByteArray} (h : a.data.toList = b.data.toList) : Ending.returned (.string a) = .returned (.string b) := by
  have : a = b := by cases a; cases b; congr 1; exact Array.toList_inj.1 h
  rw [this]
/-- one digit out of the row of ten -/
theorem ten_at : ∀ i : Fin 10, (ByteArray.extract { data := #[48, 49, 50, 51, 52, 53, 54, 55, 56, 57] } i.val (i.val + 1)).data.toList = [UInt8.ofNat (48 + i.val)] := by decide +kernel
end Go.Proofs.Ytfgkfdkdjegaiaa
