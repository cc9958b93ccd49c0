/-
  The library's table of powers of ten, from a world on.
-/
import Derived.Test.YtffcgblionlhhaaDoorMa
import Derived.Test.YtffcgblionlhhaaDoorRows
import Derived.Lib.LaidTab
import Derived.Lib.AppendIntMem
namespace Go.Proofs.YtffcgblionlhhaaDoor
open Go.RowKit
/-- the table of powers of ten holds its numbers from here on -/
def PowAt (w : World) : Prop := ∀ W, Below w.heap.size w W → Lib.TabIs Tryd.prog W "internal/strconv.uint64pow10" .u64 Lib.pow10Tab
theorem PowAt.later {w w' : World} (h : PowAt w) (hb : Below w.heap.size w w') : PowAt w' := fun W hW => h W (hb.trans (hW.mono hb.size))
end Go.Proofs.YtffcgblionlhhaaDoor
