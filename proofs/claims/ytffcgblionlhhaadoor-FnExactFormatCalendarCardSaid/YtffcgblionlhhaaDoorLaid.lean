/-
  WHAT A ROW's LIST OF VARIABLES GIVES: the table of powers of ten holds its numbers, as long as nothing below the heap's size at the start turns.
-/
import Derived.Test.YtffcgblionlhhaaDoorRows
import Derived.LaidSub
import Derived.Lib.LaidTab
import Derived.Lib.AppendIntMem
import Derived.WalkKit
namespace Go.Proofs.YtffcgblionlhhaaDoor
open Go.Lib

theorem gPow : Tryd.prog.globalNamed "internal/strconv.uint64pow10" = some 1 := by kernel_rfl
theorem gPowType : (Tryd.prog.globals[1]?).map (·.type) = some 213 := by kernel_rfl
theorem gPowCells : Tryd.prog.cellsOf 213 = 20 := by kernel_rfl
theorem gPowCell : Tryd.prog.cellsOf 106 = 1 := by kernel_rfl

theorem powTab {laid : List (String × DataW Unit)} {W : World} (hf : laid.filter (fun x => x.1 == "internal/strconv.uint64pow10") = [("internal/strconv.uint64pow10", tabData .u64 pow10Tab)])
    (h : laidMetH Tryd.prog laid W) : TabBelow Tryd.prog W.heap.size W "internal/strconv.uint64pow10" .u64 pow10Tab := by
  have h1 := h.filter (fun x => x.1 == "internal/strconv.uint64pow10")
  rw [hf] at h1
  exact tabBelow_of_tabIs (tabIs_of_head (rest := []) gPow gPowType Tryd.underlying213 Tryd.underlying106 gPowCell gPowCells h1)
end Go.Proofs.YtffcgblionlhhaaDoor
