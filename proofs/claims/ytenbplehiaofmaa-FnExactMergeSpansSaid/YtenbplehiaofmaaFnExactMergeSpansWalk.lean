/-
  THE WALK of laws.FnExactMergeSpans: for every argument the law returns true and nothing that was in memory turns.
-/
import Derived.Test.YtenbplehiaofmaaMergeSpans
namespace Go.Proofs.Ytenbplehiaofmaa.fnExactMergeSpans
open Go.RowKit
set_option linter.unusedVariables false
set_option linter.unusedSimpArgs false

set_option maxRecDepth 100000 in
set_option maxHeartbeats 8000000 in
theorem walk (v0 : Value) (W : World) (S0 : ∃ d, SpansAt W v0 d ∧ SpansFit d) (hL : laidMetH Try.prog Rows.fnExactMergeSpansRow.laid W) (hsh : W.ShapedOpen Try.prog) :
    Calls Try.prog 9 #[v0] W fun e w' => e = .returned (.bool true) ∧ Below W.heap.size W w' := by
  clear hL hsh
  obtain ⟨d0, hr0, hf0⟩ := S0
  obtain ⟨u0_0, u0_1, rfl⟩ := SpanS_open hr0
  have A0_0 := Lib.hid hr0
  have HF0 := Lib.hid hf0
  clear hr0 hf0
  go_enter Try.func9, Try.ntmps9
  -- left = szSpanS(aList, left)
  go_wp2_with fail
  go_at_call 34
  refine (szSpanS_x _ d0 _ _ (A0_0.out) HF0.out (by omega) (by omega)).mono ?_
  rintro e w1 ⟨⟨z0, rfl, hz⟩, hb⟩
  have hX1 : Hid (Below W.heap.size W w1) := hb
  have hz1 : W.heap.size + 0 ≤ w1.heap.size ∧ W.heap.size + 0 ≤ w1.heap.size := by have h1 := hb.size; (try simp at h1); omega
  have HB1 : Hid (Below W.heap.size W w1) := hX1
  have A0_1 := Lib.hid (A0_0.out.below rfl hX1.out)
  clear A0_0
  clear hb
  rcases hz with rfl | ⟨hz0, hz1, hsm⟩
  · go_wp2_with fail
    go_ret
    exact ⟨rfl, HB1.out⟩
  have HSm0 := Lib.hid hsm
  clear hsm
  have HT0 := Lib.hid (fun w (h : Below w1.heap.size w1 w) => toSpanS_x _ d0 w (A0_1.out.below rfl h) HSm0.out)
  obtain ⟨r0, r1, hq0, hboth⟩ := bothMergeSpans d0 HF0.out HSm0.out
  have HQ0 := Lib.hid hq0
  clear hq0
  have HSpec := Lib.hid (fun v0 w (h0 : SpansAt w v0 d0) => (hboth v0 w h0).1)
  have HImpl := Lib.hid (fun v0 w (h0 : SpansAt w v0 d0) => (hboth v0 w h0).2)
  clear hboth
  have hne1 : (r1 != r1) = false := by simp
  -- w0, w1 := spec.MergeSpans(toSpanS(aList))
  go_wp2_with fail
  go_at_call 35
  refine (HT0.out _ (Below.refl _ _)).mono ?_
  rintro e w2 ⟨yw0_0, yw0_1, rfl, hown, hb⟩
  have Iwt0_new := Lib.hid hown
  clear hown
  have hX2 : Hid (Below w1.heap.size w1 w2) := hb
  have hz2 : W.heap.size + 0 ≤ w2.heap.size ∧ w1.heap.size + 0 ≤ w2.heap.size := by have h1 := hb.size; (try simp at h1); omega
  have HB2 : Hid (Below W.heap.size W w2) := HB1.out.trans (hX2.out.mono (by omega))
  have A0_2 := Lib.hid (A0_1.out.below rfl hX2.out)
  clear A0_1
  clear hb
  have T0_2 := Iwt0_new
  clear Iwt0_new
  go_wp2_with fail
  go_at_call 21
  refine (HSpec.out _ _ ((T0_2.out).at)).mono ?_
  rintro e w3 ⟨zw0, rfl, hi0, hb⟩
  obtain ⟨w0_0, w0_1, rfl⟩ := SpanS_open hi0.at
  have Iw0_new := Lib.hid hi0
  clear hi0
  have hX3 : Hid (Below w2.heap.size w2 w3) := hb
  have hz3 : W.heap.size + 0 ≤ w3.heap.size ∧ w2.heap.size + 0 ≤ w3.heap.size := by have h1 := hb.size; (try simp at h1); omega
  have HB3 : Hid (Below W.heap.size W w3) := HB2.out.trans (hX3.out.mono (by omega))
  have A0_3 := Lib.hid (A0_2.out.below rfl hX3.out)
  clear A0_2
  have T0_3 := Lib.hid (T0_2.out.later hX3.out)
  clear T0_2
  clear hb
  clear T0_3
  have Iw0_3 := Iw0_new
  clear Iw0_new
  -- x0 := toSpanS(aList)
  go_wp2_with fail
  go_at_call 35
  refine (HT0.out _ (hX2.out.trans (hX3.out.mono (by omega)))).mono ?_
  rintro e w4 ⟨x0_0, x0_1, rfl, hown, hb⟩
  have Ix0_new := Lib.hid hown
  clear hown
  have hX4 : Hid (Below w3.heap.size w3 w4) := hb
  have hz4 : W.heap.size + 0 ≤ w4.heap.size ∧ w3.heap.size + 0 ≤ w4.heap.size := by have h1 := hb.size; (try simp at h1); omega
  have HB4 : Hid (Below W.heap.size W w4) := HB3.out.trans (hX4.out.mono (by omega))
  have A0_4 := Lib.hid (A0_3.out.below rfl hX4.out)
  clear A0_3
  have Iw0_4 := Lib.hid (Iw0_3.out.later hX4.out)
  clear Iw0_3
  clear hb
  have Ix0_4 := Ix0_new
  clear Ix0_new
  -- g0, g1 := impl.MergeSpans(x0)
  go_wp2_with fail
  go_at_call 18
  refine (HImpl.out _ _ ((Ix0_4.out).at)).mono ?_
  rintro e w5 ⟨zg0, rfl, hi0, hb⟩
  obtain ⟨g0_0, g0_1, rfl⟩ := SpanS_open hi0.at
  have Ig0_new := Lib.hid hi0
  clear hi0
  have hX5 : Hid (Below w4.heap.size w4 w5) := hb
  have hz5 : W.heap.size + 0 ≤ w5.heap.size ∧ w4.heap.size + 0 ≤ w5.heap.size := by have h1 := hb.size; (try simp at h1); omega
  have HB5 : Hid (Below W.heap.size W w5) := HB4.out.trans (hX5.out.mono (by omega))
  have A0_5 := Lib.hid (A0_4.out.below rfl hX5.out)
  clear A0_4
  have Iw0_5 := Lib.hid (Iw0_4.out.later hX5.out)
  clear Iw0_4
  have Ix0_5 := Lib.hid (Ix0_4.out.later hX5.out)
  clear Ix0_4
  clear hb
  have Ig0_5 := Ig0_new
  clear Ig0_new
  -- if !eqSpanS(g0, w0) || g1 != w1 {
  go_wp2_with fail
  go_at_call 36
  refine (eqSpanS_x _ _ r0 _ ((Ig0_5.out).at) ((Iw0_5.out).at) HQ0.out).mono ?_
  rintro e w6 ⟨rfl, hb⟩
  have hX6 : Hid (Below w5.heap.size w5 w6) := hb
  have hz6 : W.heap.size + 0 ≤ w6.heap.size ∧ w5.heap.size + 0 ≤ w6.heap.size := by have h1 := hb.size; (try simp at h1); omega
  have HB6 : Hid (Below W.heap.size W w6) := HB5.out.trans (hX6.out.mono (by omega))
  have A0_6 := Lib.hid (A0_5.out.below rfl hX6.out)
  clear A0_5
  have Iw0_6 := Lib.hid (Iw0_5.out.later hX6.out)
  clear Iw0_5
  have Ix0_6 := Lib.hid (Ix0_5.out.later hX6.out)
  clear Ix0_5
  have Ig0_6 := Lib.hid (Ig0_5.out.later hX6.out)
  clear Ig0_5
  clear hb
  -- if !eqSpanS(x0, toSpanS(aList)) {
  go_wp2_with fail
  go_at_call 35
  refine (HT0.out _ ((((hX2.out.trans (hX3.out.mono (by omega))).trans (hX4.out.mono (by omega))).trans (hX5.out.mono (by omega))).trans (hX6.out.mono (by omega)))).mono ?_
  rintro e w7 ⟨yy0_0, yy0_1, rfl, hown, hb⟩
  have IT_new := Lib.hid hown
  clear hown
  have hX7 : Hid (Below w6.heap.size w6 w7) := hb
  have hz7 : W.heap.size + 0 ≤ w7.heap.size ∧ w6.heap.size + 0 ≤ w7.heap.size := by have h1 := hb.size; (try simp at h1); omega
  have HB7 : Hid (Below W.heap.size W w7) := HB6.out.trans (hX7.out.mono (by omega))
  have A0_7 := Lib.hid (A0_6.out.below rfl hX7.out)
  clear A0_6
  have Iw0_7 := Lib.hid (Iw0_6.out.later hX7.out)
  clear Iw0_6
  have Ix0_7 := Lib.hid (Ix0_6.out.later hX7.out)
  clear Ix0_6
  have Ig0_7 := Lib.hid (Ig0_6.out.later hX7.out)
  clear Ig0_6
  clear hb
  have T9_7 := IT_new
  clear IT_new
  go_wp2_with fail
  go_at_call 36
  refine (eqSpanS_x _ _ d0 _ ((Ix0_7.out).at) ((T9_7.out).at) HSm0.out).mono ?_
  rintro e w8 ⟨rfl, hb⟩
  have hX8 : Hid (Below w7.heap.size w7 w8) := hb
  have hz8 : W.heap.size + 0 ≤ w8.heap.size ∧ w7.heap.size + 0 ≤ w8.heap.size := by have h1 := hb.size; (try simp at h1); omega
  have HB8 : Hid (Below W.heap.size W w8) := HB7.out.trans (hX8.out.mono (by omega))
  have A0_8 := Lib.hid (A0_7.out.below rfl hX8.out)
  clear A0_7
  have Iw0_8 := Lib.hid (Iw0_7.out.later hX8.out)
  clear Iw0_7
  have Ix0_8 := Lib.hid (Ix0_7.out.later hX8.out)
  clear Ix0_7
  have Ig0_8 := Lib.hid (Ig0_7.out.later hX8.out)
  clear Ig0_7
  have T9_8 := Lib.hid (T9_7.out.later hX8.out)
  clear T9_7
  clear hb
  clear T9_8
  -- k = markSpanS(x0, k)
  clear A0_8
  go_wp2_with fail
  have hsm0 := HSm0.out
  try unfold SpansSmall at hsm0
  go_at_call 37
  refine (markSpanS_x _ d0 _ _ _ _ Ix0_8.out (by omega) HSm0.out (by omega) (by omega)).mono ?_
  rintro e w9 ⟨rfl, hmk, hgr, ho⟩
  clear hmk hgr
  have hX9 : Hid (Out (_) (_) w8 w9) := ho
  have hz9 : W.heap.size + 0 ≤ w9.heap.size ∧ w8.heap.size ≤ w9.heap.size := ⟨by have := hX9.out.below.size; omega, hX9.out.below.size⟩
  have HB9 : Hid (Below W.heap.size W w9) := HB8.out.trans (hX9.out.below.mono (by omega))
  have Iw0_9 := Lib.hid (Iw0_8.out.out hX9.out (by omega))
  clear Iw0_8
  clear Ix0_8
  have Ig0_9 := Lib.hid (Ig0_8.out.out hX9.out (by omega))
  clear Ig0_8
  clear ho
  -- if k < 0 || !eqSpanS(g0, w0) || g1 != w1 {
  go_wp2_with fail
  go_at_call 36
  refine (eqSpanS_x _ _ r0 _ ((Ig0_9.out).at) ((Iw0_9.out).at) HQ0.out).mono ?_
  rintro e w10 ⟨rfl, hb⟩
  have hX10 : Hid (Below w9.heap.size w9 w10) := hb
  have hz10 : W.heap.size + 0 ≤ w10.heap.size ∧ w9.heap.size + 0 ≤ w10.heap.size := by have h1 := hb.size; (try simp at h1); omega
  have HB10 : Hid (Below W.heap.size W w10) := HB9.out.trans (hX10.out.mono (by omega))
  have Iw0_10 := Lib.hid (Iw0_9.out.later hX10.out)
  clear Iw0_9
  have Ig0_10 := Lib.hid (Ig0_9.out.later hX10.out)
  clear Ig0_9
  clear hb
  -- m = markSpanS(g0, m)
  go_wp2_with fail
  have hsq0 := HQ0.out
  try unfold SpansSmall at hsq0
  go_at_call 37
  refine (markSpanS_x _ r0 _ _ _ _ Ig0_10.out (by omega) HQ0.out (by omega) (by omega)).mono ?_
  rintro e w11 ⟨rfl, hmk, hgr, ho⟩
  have M0_new := Lib.hid hmk
  clear hmk hgr
  have hX11 : Hid (Out (_) (_) w10 w11) := ho
  have hz11 : W.heap.size + 0 ≤ w11.heap.size ∧ w10.heap.size ≤ w11.heap.size := ⟨by have := hX11.out.below.size; omega, hX11.out.below.size⟩
  have HB11 : Hid (Below W.heap.size W w11) := HB10.out.trans (hX11.out.below.mono (by omega))
  have Iw0_11 := Lib.hid (Iw0_10.out.out hX11.out (by omega))
  clear Iw0_10
  clear Ig0_10
  clear ho
  have M0_11 := M0_new
  clear M0_new
  -- q = heldSpanS(g0, q)
  go_wp2_with fail
  go_at_call 38
  refine (heldSpanS_x _ r0 _ _ (M0_11.out) HQ0.out (by omega) (by omega)).mono ?_
  rintro e w12 ⟨rfl, hb⟩
  have hX12 : Hid (Below w11.heap.size w11 w12) := hb
  have hz12 : W.heap.size + 0 ≤ w12.heap.size ∧ w11.heap.size + 0 ≤ w12.heap.size := by have h1 := hb.size; (try simp at h1); omega
  have HB12 : Hid (Below W.heap.size W w12) := HB11.out.trans (hX12.out.mono (by omega))
  have Iw0_12 := Lib.hid (Iw0_11.out.later hX12.out)
  clear Iw0_11
  have M0_12 := Lib.hid (M0_11.out.later hX12.out)
  clear M0_11
  clear hb
  have hqq : ((1 : Int) + 2 * (r0.length : Int) != 1 + 2 * (r0.length : Int)) = false := by simp
  -- h0, h1 := impl.MergeSpans(toSpanS(aList))
  go_wp2_with fail
  go_at_call 35
  refine (HT0.out _ ((((((((((hX2.out.trans (hX3.out.mono (by omega))).trans (hX4.out.mono (by omega))).trans (hX5.out.mono (by omega))).trans (hX6.out.mono (by omega))).trans (hX7.out.mono (by omega))).trans (hX8.out.mono (by omega))).trans (hX9.out.below.mono (by omega))).trans (hX10.out.mono (by omega))).trans (hX11.out.below.mono (by omega))).trans (hX12.out.mono (by omega)))).mono ?_
  rintro e w13 ⟨yh0_0, yh0_1, rfl, hown, hb⟩
  have Iht0_new := Lib.hid hown
  clear hown
  have hX13 : Hid (Below w12.heap.size w12 w13) := hb
  have hz13 : W.heap.size + 0 ≤ w13.heap.size ∧ w12.heap.size + 0 ≤ w13.heap.size := by have h1 := hb.size; (try simp at h1); omega
  have HB13 : Hid (Below W.heap.size W w13) := HB12.out.trans (hX13.out.mono (by omega))
  have Iw0_13 := Lib.hid (Iw0_12.out.later hX13.out)
  clear Iw0_12
  have M0_13 := Lib.hid (M0_12.out.later hX13.out)
  clear M0_12
  clear hb
  have T0_13 := Iht0_new
  clear Iht0_new
  go_wp2_with fail
  go_at_call 18
  refine (HImpl.out _ _ ((T0_13.out).at)).mono ?_
  rintro e w14 ⟨zh0, rfl, hi0, hb⟩
  obtain ⟨h0_0, h0_1, rfl⟩ := SpanS_open hi0.at
  have Ih0_new := Lib.hid hi0
  clear hi0
  have hX14 : Hid (Below w13.heap.size w13 w14) := hb
  have hz14 : W.heap.size + 0 ≤ w14.heap.size ∧ w13.heap.size + 0 ≤ w14.heap.size := by have h1 := hb.size; (try simp at h1); omega
  have HB14 : Hid (Below W.heap.size W w14) := HB13.out.trans (hX14.out.mono (by omega))
  have Iw0_14 := Lib.hid (Iw0_13.out.later hX14.out)
  clear Iw0_13
  have M0_14 := Lib.hid (M0_13.out.later hX14.out)
  clear M0_13
  have T0_14 := Lib.hid (T0_13.out.later hX14.out)
  clear T0_13
  clear hb
  clear T0_14
  have Ih0_14 := Ih0_new
  clear Ih0_new
  -- if !eqSpanS(h0, w0) || h1 != w1 {
  go_wp2_with fail
  go_at_call 36
  refine (eqSpanS_x _ _ r0 _ ((Ih0_14.out).at) ((Iw0_14.out).at) HQ0.out).mono ?_
  rintro e w15 ⟨rfl, hb⟩
  have hX15 : Hid (Below w14.heap.size w14 w15) := hb
  have hz15 : W.heap.size + 0 ≤ w15.heap.size ∧ w14.heap.size + 0 ≤ w15.heap.size := by have h1 := hb.size; (try simp at h1); omega
  have HB15 : Hid (Below W.heap.size W w15) := HB14.out.trans (hX15.out.mono (by omega))
  have Iw0_15 := Lib.hid (Iw0_14.out.later hX15.out)
  clear Iw0_14
  have M0_15 := Lib.hid (M0_14.out.later hX15.out)
  clear M0_14
  have Ih0_15 := Lib.hid (Ih0_14.out.later hX15.out)
  clear Ih0_14
  clear hb
  clear Ih0_15
  -- q = heldSpanS(g0, q)
  go_wp2_with fail
  go_at_call 38
  refine (heldSpanS_x _ r0 _ _ (M0_15.out) HQ0.out (by omega) (by omega)).mono ?_
  rintro e w16 ⟨rfl, hb⟩
  have hX16 : Hid (Below w15.heap.size w15 w16) := hb
  have hz16 : W.heap.size + 0 ≤ w16.heap.size ∧ w15.heap.size + 0 ≤ w16.heap.size := by have h1 := hb.size; (try simp at h1); omega
  have HB16 : Hid (Below W.heap.size W w16) := HB15.out.trans (hX16.out.mono (by omega))
  have Iw0_16 := Lib.hid (Iw0_15.out.later hX16.out)
  clear Iw0_15
  have M0_16 := Lib.hid (M0_15.out.later hX16.out)
  clear M0_15
  clear hb
  have hqq : ((1 : Int) + 2 * (r0.length : Int) != 1 + 2 * (r0.length : Int)) = false := by simp
  go_wp2_with fail
  go_ret
  exact ⟨rfl, HB16.out⟩
end Go.Proofs.Ytenbplehiaofmaa.fnExactMergeSpans
