/-
  THE SHELF's layers of library functions that this seat's texts use, at this dump's numbers.
-/
import Derived.Shelf.SlGeneric
import Derived.Shelf.SlicesE.Clone
import Derived.Ground.SlgnProg
import Derived.Test.YtmcpafflnccfaaaProg
namespace Go.Proofs
open Go.Shelf
def Try.cloneLeg_ren : Go.Shelf.Ren := ⟨fun | 41 => 113 | n => n, fun | 22 => 30 | 23 => 62 | 4 => 4 | n => n, fun | n => n⟩
theorem Try.cloneLeg : Go.Proofs.SlLaysE0.n41 Try.prog Try.cloneLeg_ren := {
  mixed := by kernel_rfl
  f41 := ⟨Try.f113.name, by decide, Try.func113.trans (congrArg some (by kernel_rfl))⟩
  t4 := Try.underlying4
  a4 := Try.isAgg4
  z4 := Try.sizeOf4
  v4 := Try.zeroValue4
  t22 := Try.underlying30
  a22 := Try.isAgg30
  z22 := Try.sizeOf30
  v22 := Try.zeroValue30 }
end Go.Proofs
