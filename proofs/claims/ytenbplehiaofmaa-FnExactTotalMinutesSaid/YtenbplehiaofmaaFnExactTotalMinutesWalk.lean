/-
  THE WALK of laws.FnExactTotalMinutes: for every argument the law returns true and nothing that was in memory turns.
-/
import Derived.Test.YtenbplehiaofmaaTotalMinutes
namespace Go.Proofs.Ytenbplehiaofmaa.fnExactTotalMinutes
open Go.RowKit
set_option linter.unusedVariables false
set_option linter.unusedSimpArgs false

set_option maxRecDepth 100000 in
set_option maxHeartbeats 8000000 in
theorem walk (v0 : Value) (W : World) (S0 : ∃ d, SpansAt W v0 d ∧ SpansFit d) (hL : laidMetH Try.prog Rows.fnExactTotalMinutesRow.laid W) (hsh : W.ShapedOpen Try.prog) :
    Calls Try.prog 11 #[v0] W fun e w' => e = .returned (.bool true) ∧ Below W.heap.size W w' := by
  clear hL hsh
  obtain ⟨d0, hr0, hf0⟩ := S0
  obtain ⟨u0_0, u0_1, rfl⟩ := SpanS_open hr0
  have A0_0 := Lib.hid hr0
  have HF0 := Lib.hid hf0
  clear hr0 hf0
  go_enter Try.func11, Try.ntmps11
  -- left = szSpanS(aList, left)
  go_wp2_with fail
  go_at_call 34
  refine (szSpanS_x _ d0 _ _ (A0_0.out) HF0.out (by omega) (by omega)).mono ?_
  rintro e w1 ⟨⟨z0, rfl, hz⟩, hb⟩
  have hX1 : Hid (Below W.heap.size W w1) := hb
  have hz1 : W.heap.size + 0 ≤ w1.heap.size ∧ W.heap.size + 0 ≤ w1.heap.size := by have h1 := hb.size; (try simp at h1); omega
  have HB1 : Hid (Below W.heap.size W w1) := hX1
  have A0_1 := Lib.hid (A0_0.out.below rfl hX1.out)
  clear A0_0
  clear hb
  rcases hz with rfl | ⟨hz0, hz1, hsm⟩
  · go_wp2_with fail
    go_ret
    exact ⟨rfl, HB1.out⟩
  have HSm0 := Lib.hid hsm
  clear hsm
  have HT0 := Lib.hid (fun w (h : Below w1.heap.size w1 w) => toSpanS_x _ d0 w (A0_1.out.below rfl h) HSm0.out)
  obtain ⟨r0, r1, hboth⟩ := bothTotalMinutes d0 HF0.out HSm0.out
  have HSpec := Lib.hid (fun v0 w (h0 : SpansAt w v0 d0) => (hboth v0 w h0).1)
  have HImpl := Lib.hid (fun v0 w (h0 : SpansAt w v0 d0) => (hboth v0 w h0).2)
  clear hboth
  have hne0 : (r0 != r0) = false := by simp
  have hne1 : (r1 != r1) = false := by simp
  -- w0, w1 := spec.TotalMinutes(toSpanS(aList))
  go_wp2_with fail
  go_at_call 35
  refine (HT0.out _ (Below.refl _ _)).mono ?_
  rintro e w2 ⟨yw0_0, yw0_1, rfl, hown, hb⟩
  have Iwt0_new := Lib.hid hown
  clear hown
  have hX2 : Hid (Below w1.heap.size w1 w2) := hb
  have hz2 : W.heap.size + 0 ≤ w2.heap.size ∧ w1.heap.size + 0 ≤ w2.heap.size := by have h1 := hb.size; (try simp at h1); omega
  have HB2 : Hid (Below W.heap.size W w2) := HB1.out.trans (hX2.out.mono (by omega))
  have A0_2 := Lib.hid (A0_1.out.below rfl hX2.out)
  clear A0_1
  clear hb
  have T0_2 := Iwt0_new
  clear Iwt0_new
  go_wp2_with fail
  go_at_call 39
  refine (HSpec.out _ _ ((T0_2.out).at)).mono ?_
  rintro e w3 ⟨rfl, hb⟩
  have hX3 : Hid (Below w2.heap.size w2 w3) := hb
  have hz3 : W.heap.size + 0 ≤ w3.heap.size ∧ w2.heap.size + 0 ≤ w3.heap.size := by have h1 := hb.size; (try simp at h1); omega
  have HB3 : Hid (Below W.heap.size W w3) := HB2.out.trans (hX3.out.mono (by omega))
  have A0_3 := Lib.hid (A0_2.out.below rfl hX3.out)
  clear A0_2
  have T0_3 := Lib.hid (T0_2.out.later hX3.out)
  clear T0_2
  clear hb
  clear T0_3
  -- x0 := toSpanS(aList)
  go_wp2_with fail
  go_at_call 35
  refine (HT0.out _ (hX2.out.trans (hX3.out.mono (by omega)))).mono ?_
  rintro e w4 ⟨x0_0, x0_1, rfl, hown, hb⟩
  have Ix0_new := Lib.hid hown
  clear hown
  have hX4 : Hid (Below w3.heap.size w3 w4) := hb
  have hz4 : W.heap.size + 0 ≤ w4.heap.size ∧ w3.heap.size + 0 ≤ w4.heap.size := by have h1 := hb.size; (try simp at h1); omega
  have HB4 : Hid (Below W.heap.size W w4) := HB3.out.trans (hX4.out.mono (by omega))
  have A0_4 := Lib.hid (A0_3.out.below rfl hX4.out)
  clear A0_3
  clear hb
  have Ix0_4 := Ix0_new
  clear Ix0_new
  -- g0, g1 := impl.TotalMinutes(x0)
  go_wp2_with fail
  go_at_call 19
  refine (HImpl.out _ _ ((Ix0_4.out).at)).mono ?_
  rintro e w5 ⟨rfl, hb⟩
  have hX5 : Hid (Below w4.heap.size w4 w5) := hb
  have hz5 : W.heap.size + 0 ≤ w5.heap.size ∧ w4.heap.size + 0 ≤ w5.heap.size := by have h1 := hb.size; (try simp at h1); omega
  have HB5 : Hid (Below W.heap.size W w5) := HB4.out.trans (hX5.out.mono (by omega))
  have A0_5 := Lib.hid (A0_4.out.below rfl hX5.out)
  clear A0_4
  have Ix0_5 := Lib.hid (Ix0_4.out.later hX5.out)
  clear Ix0_4
  clear hb
  -- if g0 != w0 || g1 != w1 {
  -- if !eqSpanS(x0, toSpanS(aList)) {
  go_wp2_with fail
  go_at_call 35
  refine (HT0.out _ (((hX2.out.trans (hX3.out.mono (by omega))).trans (hX4.out.mono (by omega))).trans (hX5.out.mono (by omega)))).mono ?_
  rintro e w6 ⟨yy0_0, yy0_1, rfl, hown, hb⟩
  have IT_new := Lib.hid hown
  clear hown
  have hX6 : Hid (Below w5.heap.size w5 w6) := hb
  have hz6 : W.heap.size + 0 ≤ w6.heap.size ∧ w5.heap.size + 0 ≤ w6.heap.size := by have h1 := hb.size; (try simp at h1); omega
  have HB6 : Hid (Below W.heap.size W w6) := HB5.out.trans (hX6.out.mono (by omega))
  have A0_6 := Lib.hid (A0_5.out.below rfl hX6.out)
  clear A0_5
  have Ix0_6 := Lib.hid (Ix0_5.out.later hX6.out)
  clear Ix0_5
  clear hb
  have T9_6 := IT_new
  clear IT_new
  go_wp2_with fail
  go_at_call 36
  refine (eqSpanS_x _ _ d0 _ ((Ix0_6.out).at) ((T9_6.out).at) HSm0.out).mono ?_
  rintro e w7 ⟨rfl, hb⟩
  have hX7 : Hid (Below w6.heap.size w6 w7) := hb
  have hz7 : W.heap.size + 0 ≤ w7.heap.size ∧ w6.heap.size + 0 ≤ w7.heap.size := by have h1 := hb.size; (try simp at h1); omega
  have HB7 : Hid (Below W.heap.size W w7) := HB6.out.trans (hX7.out.mono (by omega))
  have A0_7 := Lib.hid (A0_6.out.below rfl hX7.out)
  clear A0_6
  have Ix0_7 := Lib.hid (Ix0_6.out.later hX7.out)
  clear Ix0_6
  have T9_7 := Lib.hid (T9_6.out.later hX7.out)
  clear T9_6
  clear hb
  clear T9_7
  go_wp2_with fail
  go_ret
  exact ⟨rfl, HB7.out⟩
end Go.Proofs.Ytenbplehiaofmaa.fnExactTotalMinutes
