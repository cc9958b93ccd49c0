/-
  THE WALK of laws.FnExactParseTime: for every argument the law returns true and nothing that was in memory turns.
-/
import Derived.Test.YtenbplehiaofmaaParseTime
namespace Go.Proofs.Ytenbplehiaofmaa.fnExactParseTime
open Go.RowKit
set_option linter.unusedVariables false
set_option linter.unusedSimpArgs false

set_option maxRecDepth 100000 in
set_option maxHeartbeats 8000000 in
theorem walk (a0 : ByteArray) (W : World) (w0 : a0.size ≤ maxLen) (hL : laidMetH Try.prog Rows.fnExactParseTimeRow.laid W) (hsh : W.ShapedOpen Try.prog) :
    Calls Try.prog 6 #[.string a0] W fun e w' => e = .returned (.bool true) ∧ Below W.heap.size W w' := by
  clear hL hsh
  have hs0 := w0
  unfold maxLen at hs0
  -- if len(aS) > 1<<20 {
  by_cases hbig0 : 1048576 < a0.size
  · go_enter Try.func6, Try.ntmps6
    go_wp2_with fail
    go_ret
    exact ⟨rfl, (Below.refl _ _)⟩
  go_enter Try.func6, Try.ntmps6
  obtain ⟨r0, r1, hboth⟩ := bothParseTime a0 w0
  have HSpec := Lib.hid (fun  w  => (hboth  w ).1)
  have HImpl := Lib.hid (fun  w  => (hboth  w ).2)
  clear hboth
  have hne0 : (r0 != r0) = false := by simp
  have hne1 : (r1 != r1) = false := by simp
  -- w0, w1 := spec.ParseTime(aS)
  go_wp2_with fail
  go_at_call 27
  refine (HSpec.out  _ ).mono ?_
  rintro e w1 ⟨rfl, hb⟩
  have hX1 : Hid (Below W.heap.size W w1) := hb
  have hz1 : W.heap.size + 0 ≤ w1.heap.size ∧ W.heap.size + 0 ≤ w1.heap.size := by have h1 := hb.size; (try simp at h1); omega
  have HB1 : Hid (Below W.heap.size W w1) := hX1
  clear hb
  -- g0, g1 := impl.ParseTime(aS)
  go_wp2_with fail
  go_at_call 28
  refine (HImpl.out  _ ).mono ?_
  rintro e w2 ⟨rfl, hb⟩
  have hX2 : Hid (Below w1.heap.size w1 w2) := hb
  have hz2 : W.heap.size + 0 ≤ w2.heap.size ∧ w1.heap.size + 0 ≤ w2.heap.size := by have h1 := hb.size; (try simp at h1); omega
  have HB2 : Hid (Below W.heap.size W w2) := HB1.out.trans (hX2.out.mono (by omega))
  clear hb
  -- if g0 != w0 || g1 != w1 {
  go_wp2_with fail
  go_ret
  exact ⟨rfl, HB2.out⟩
end Go.Proofs.Ytenbplehiaofmaa.fnExactParseTime
