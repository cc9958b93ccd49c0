/-
  CONTRACT: the sort of a row of numbers of the call's own (slices.Sort at []int).
-/
import Derived.Test.YtfgkfdkdjegaiaaShelf
import Derived.Test.YtfgkfdkdjegaiaaOwnI
import Derived.Lib.OwnBridge
namespace Go.Proofs.Ytfgkfdkdjegaiaa
open Go.RowKit
set_option linter.unusedVariables false

theorem own_grow {w : World} {B : Nat} {e : TypeId} {sz : Nat} {v : Value} {n : Nat} {xs : List Value} (h : w.ownsRow B e sz v n xs) (os : Array Obj) : (Sort.grow w os).ownsRow B e sz v n xs :=
  own_block h (fun g hg => by
    have := (h.lt g hg).2
    show (w.heap ++ os)[g]? = _
    rw [Array.getElem?_append_left this])
theorem below_grow {B : Nat} {w0 w : World} (h : Below B w0 w) (hB : B ≤ w.heap.size) (os : Array Obj) : Below B w0 (Sort.grow w os) :=
  ⟨h.os, h.tape, h.output, by have := h.size; simp [Sort.grow]; omega, fun k hk => by
    rw [← h.block k hk]
    show (w.heap ++ os)[k]? = _
    rw [Array.getElem?_append_left (by omega)]⟩
/-- the sort of a row of numbers of the call's own -/
theorem sortInts_own (v : Value) (xs : List Int) (B : Nat) (w : World) (h : w.ownsRow B 3 1 v xs.length (ints xs)) (hv : v.ownBlock ≠ none) (hn : xs.length ≤ 1048576) :
    Calls Try.prog 96 #[v] w fun e w' => e = .returned (.tuple #[]) ∧ w'.ownsRow B 3 1 v xs.length (ints (xs.mergeSort (fun x y => decide (x ≤ y)))) ∧ ∀ w0, Below B w0 w → Below B w0 w' := by
  obtain ⟨g, cap, rfl, hg, hgl, hc, hm, hzl, hH⟩ := Lib.holds_of_ownsRow (enc := Value.int .i64) (zs := xs) h (fun e => hv (by rw [e]; rfl))
  refine (Try.slices_Sort_int g 0 cap xs w hH hgl (by omega)).mono ?_
  rintro e w' ⟨rfl, n, os, rfl⟩
  have hl : (xs.mergeSort (fun x y => decide (x ≤ y))).length = xs.length := List.length_mergeSort _
  have h1 := Lib.ownsRow_putRow (q := n) (ys := xs.mergeSort (fun x y => decide (x ≤ y))) (k := xs.length) h hl (Nat.le_refl _)
  rw [List.take_of_length_le (by omega)] at h1
  refine ⟨rfl, own_grow h1 os, fun w0 hb => below_grow (Lib.below_putRow hb hg) (by simp [Sort.putRow, Sort.mapBlock, Sort.ahead]; omega) os⟩
end Go.Proofs.Ytfgkfdkdjegaiaa
