/-
  THE WALK of laws.FnExactFormatTime: for every argument the law returns true and nothing that was in memory turns.
-/
import Derived.Test.YtenbplehiaofmaaFormatTime
namespace Go.Proofs.Ytenbplehiaofmaa.fnExactFormatTime
open Go.RowKit
set_option linter.unusedVariables false
set_option linter.unusedSimpArgs false

set_option maxRecDepth 100000 in
set_option maxHeartbeats 8000000 in
theorem walk (a0 : Int) (W : World) (w0 : (Lit.int .i64 a0).wf = true) (hL : laidMetH Try.prog Rows.fnExactFormatTimeRow.laid W) (hsh : W.ShapedOpen Try.prog) :
    Calls Try.prog 5 #[.int .i64 a0] W fun e w' => e = .returned (.bool true) ∧ Below W.heap.size W w' := by
  clear hL hsh
  have Hw0 := Lib.hid w0
  clear w0
  go_enter Try.func5, Try.ntmps5
  obtain ⟨r0, r1, hboth⟩ := bothFormatTime a0 Hw0.out
  have HSpec := Lib.hid (fun  w  => (hboth  w ).1)
  have HImpl := Lib.hid (fun  w  => (hboth  w ).2)
  clear hboth
  have hne0 : (r0.toList != r0.toList) = false := by simp
  have hne1 : (r1 != r1) = false := by simp
  -- w0, w1 := spec.FormatTime(aT)
  go_wp2_with fail
  go_at_call 25
  refine (HSpec.out  _ ).mono ?_
  rintro e w1 ⟨rfl, hb⟩
  have hX1 : Hid (Below W.heap.size W w1) := hb
  have hz1 : W.heap.size + 0 ≤ w1.heap.size ∧ W.heap.size + 0 ≤ w1.heap.size := by have h1 := hb.size; (try simp at h1); omega
  have HB1 : Hid (Below W.heap.size W w1) := hX1
  clear hb
  -- g0, g1 := impl.FormatTime(aT)
  go_wp2_with fail
  go_at_call 26
  refine (HImpl.out  _ ).mono ?_
  rintro e w2 ⟨rfl, hb⟩
  have hX2 : Hid (Below w1.heap.size w1 w2) := hb
  have hz2 : W.heap.size + 0 ≤ w2.heap.size ∧ w1.heap.size + 0 ≤ w2.heap.size := by have h1 := hb.size; (try simp at h1); omega
  have HB2 : Hid (Below W.heap.size W w2) := HB1.out.trans (hX2.out.mono (by omega))
  clear hb
  -- if g0 != w0 || g1 != w1 {
  go_wp2_with fail
  go_ret
  exact ⟨rfl, HB2.out⟩
end Go.Proofs.Ytenbplehiaofmaa.fnExactFormatTime
