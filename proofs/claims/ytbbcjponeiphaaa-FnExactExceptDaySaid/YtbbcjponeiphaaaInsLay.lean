/-
  THE SHELF's layer of slices.Insert at []int, at this seat's numbers.
-/
import Derived.Shelf.Spec.SlicesInsertGrow
import Derived.Test.YtbbcjponeiphaaaProg
namespace Go.Proofs
open Go.Shelf
def Try.laysIns_ren : Go.Shelf.Ren := ⟨fun | 21 => 152 | 27 => 183 | 28 => 184 | 35 => 193 | 39 => 117 | n => n, fun | n => n, fun | n => n⟩
theorem Try.laysIns : Go.Proofs.Lays2.n21 Try.prog Try.laysIns_ren := {
  mixed := by kernel_rfl
  f21 := Try.func152.trans (congrArg some (by kernel_rfl))
  f27 := Try.func183.trans (congrArg some (by kernel_rfl))
  f28 := Try.func184.trans (congrArg some (by kernel_rfl))
  f35 := Try.func193.trans (congrArg some (by kernel_rfl))
  f39 := Try.func117.trans (congrArg some (by kernel_rfl))
  t0 := Try.underlying0
  a0 := Try.isAgg0
  z0 := Try.sizeOf0
  v0 := Try.zeroValue0
  t3 := Try.underlying3
  a3 := Try.isAgg3
  z3 := Try.sizeOf3
  v3 := Try.zeroValue3
  t4 := Try.underlying4
  a4 := Try.isAgg4
  z4 := Try.sizeOf4
  v4 := Try.zeroValue4
  t22 := Try.underlying22
  a22 := Try.isAgg22
  z22 := Try.sizeOf22
  v22 := Try.zeroValue22
  i3 := by kernel_rfl }
end Go.Proofs
