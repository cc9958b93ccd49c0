/-
  THE WALK of laws.FnExactFreeSpans: for every argument the law returns true and nothing that was in memory turns.
-/
import Derived.Test.YtenbplehiaofmaaFreeSpans
namespace Go.Proofs.Ytenbplehiaofmaa.fnExactFreeSpans
open Go.RowKit
set_option linter.unusedVariables false
set_option linter.unusedSimpArgs false

theorem keep2 {W w w' : World} {p0 p1 : Addr} {x0 x1 : Value} (hb : Below w.heap.size w w') (h : w.cell? p0 = some x0 ∧ w.cell? p1 = some x1 ∧ Below W.heap.size W w) : w'.cell? p0 = some x0 ∧ w'.cell? p1 = some x1 ∧ Below W.heap.size W w' := by
  obtain ⟨h0, h1, hl⟩ := h
  exact ⟨bkeep hb h0, bkeep hb h1, hl.trans (hb.mono hl.size)⟩
theorem bel2 {W w : World} {p0 p1 : Addr} {x0 x1 : Value} (h : w.cell? p0 = some x0 ∧ w.cell? p1 = some x1 ∧ Below W.heap.size W w) : Below W.heap.size W w := h.2.2

set_option maxRecDepth 100000 in
set_option maxHeartbeats 8000000 in
theorem walk (v0 : Value) (v1 : Value) (W : World) (S0 : ∃ d, SpansAt W v0 d ∧ SpansFit d) (S1 : ∃ d, SpanAt W v1 d ∧ SpanWf d) (hL : laidMetH Try.prog Rows.fnExactFreeSpansRow.laid W) (hsh : W.ShapedOpen Try.prog) :
    Calls Try.prog 10 #[v0, v1] W fun e w' => e = .returned (.bool true) ∧ Below W.heap.size W w' := by
  clear hL hsh
  obtain ⟨d0, hr0, hf0⟩ := S0
  obtain ⟨u0_0, u0_1, rfl⟩ := SpanS_open hr0
  have A0_0 := Lib.hid hr0
  have HF0 := Lib.hid hf0
  clear hr0 hf0
  obtain ⟨d1, hr1, hf1⟩ := S1
  obtain ⟨rfl⟩ := Span_open hr1
  have A1_0 := Lib.hid hr1
  have HF1 := Lib.hid hf1
  clear hr1 hf1
  have HSm1 : Hid (SpanSmall d1) := trivial
  have HT1 := Lib.hid (fun w (h : Below W.heap.size W w) => toSpan_x _ d1 w (A1_0.out.below rfl h) HSm1.out)
  go_enter Try.func10, Try.ntmps10
  -- left = szSpanS(aList, left)
  go_wp2_with fail
  go_at_call 34
  refine (szSpanS_x _ d0 _ _ ((A0_0.out).below rfl ((Below.refl _ _).alloc (by first | omega | (simp; omega) | simp) _)) HF0.out (by omega) (by omega)).mono ?_
  rintro e w1 ⟨⟨z0, rfl, hz⟩, hb⟩
  have hX1 : Hid (Below W.heap.size W w1) := ((Below.refl _ _).alloc (by first | omega | (simp; omega) | simp) _).trans (hb.mono (by first | omega | (simp; omega) | simp))
  have hz1 : W.heap.size + 1 ≤ w1.heap.size ∧ W.heap.size + 1 ≤ w1.heap.size := by have h1 := hb.size; (try simp at h1); omega
  have HB1 : Hid (Below W.heap.size W w1) := hX1
  have A0_1 := Lib.hid (A0_0.out.below rfl hX1.out)
  clear A0_0
  have A1_1 := Lib.hid (A1_0.out.below rfl hX1.out)
  clear A1_0
  have n_0 : w1.cell? ⟨W.heap.size, 0, none⟩ = some (.int .i64 d1.1) := bkeep hb (by go_simp)
  have n_1 : w1.cell? ⟨W.heap.size, 1, none⟩ = some (.int .i64 d1.2) := bkeep hb (by go_simp)
  have XaWithin_1 : Hid (CellsF w1 (W.heap.size) 0 [(.int .i64 d1.1), (.int .i64 d1.2)]) := ⟨n_0, n_1, trivial⟩
  clear n_0 n_1
  clear hb
  rcases hz with rfl | ⟨hz0, hz1, hsm⟩
  · go_wp2_with fail
    go_ret
    exact ⟨rfl, HB1.out⟩
  have HSm0 := Lib.hid hsm
  clear hsm
  have HT0 := Lib.hid (fun w (h : Below w1.heap.size w1 w) => toSpanS_x _ d0 w (A0_1.out.below rfl h) HSm0.out)
  obtain ⟨r0, r1, hq0, hboth⟩ := bothFreeSpans d0 HF0.out HSm0.out d1 HF1.out HSm1.out
  have HQ0 := Lib.hid hq0
  clear hq0
  have HSpec := Lib.hid (fun v0 v1 w (h0 : SpansAt w v0 d0) (h1 : SpanAt w v1 d1) => (hboth v0 v1 w h0 h1).1)
  have HImpl := Lib.hid (fun v0 v1 w (h0 : SpansAt w v0 d0) (h1 : SpanAt w v1 d1) => (hboth v0 v1 w h0 h1).2)
  clear hboth
  have hne1 : (r1 != r1) = false := by simp
  -- w0, w1 := spec.FreeSpans(toSpanS(aList), toSpan(aWithin))
  have c_aWithin0 : w1.cell? ⟨W.heap.size, 0, none⟩ = some (.int .i64 d1.1) := XaWithin_1.out.1
  have c_aWithin1 : w1.cell? ⟨W.heap.size, 1, none⟩ = some (.int .i64 d1.2) := XaWithin_1.out.2.1
  go_wp2_with fail
  go_region_held3 (fun w' => w'.cell? ⟨W.heap.size, 0, none⟩ = some (.int .i64 d1.1) ∧ w'.cell? ⟨W.heap.size, 1, none⟩ = some (.int .i64 d1.2) ∧ Below w1.heap.size w1 w')
    (first | (exact ⟨c_aWithin0, c_aWithin1, (Below.refl _ _).drew⟩) | (exact keep2 hb (by assumption)) | (exact keep2 hb0 (by assumption)) | (exact keep2 hb1 (by assumption)))
    (first | (go_at_call_of 35 d0; refine (HT0.out _ ((Below.refl _ _).trans ((bel2 (by assumption)).mono (by omega)))).mono ?_; rintro e w' ⟨yw0_0, yw0_1, rfl, hown0, hb0⟩) | (go_at_call_of 32 d1; refine (HT1.out _ (hX1.out.trans ((bel2 (by assumption)).mono (by omega)))).mono ?_; rintro e w' ⟨rfl, hown1, hb1⟩) | (go_at_call 16; refine (HSpec.out _ _ _ (by first | exact hown0.at | exact hown0.at.below rfl hb1) (by first | exact hown1.at | exact hown1.at.below rfl hb0)).mono ?_; rintro e w' ⟨zw0, rfl, hi0, hb⟩))
  all_goals
    have hS : w'.cell? ⟨W.heap.size, 0, none⟩ = some (.int .i64 d1.1) ∧ w'.cell? ⟨W.heap.size, 1, none⟩ = some (.int .i64 d1.2) ∧ Below w1.heap.size w1 w' := by assumption
    obtain ⟨w0_0, w0_1, rfl⟩ := SpanS_open hi0.at
    have Iw0_new := Lib.hid hi0
    clear hi0
    have Iw0_low := Lib.hid (Iw0_new.out.base (Nat.zero_le _) (Nat.le_refl _))
    clear Iw0_new
    clear hb hown0 hown1 hb0 hb1
    obtain ⟨_, _, hb⟩ := hS
    obtain ⟨w2, hww⟩ : ∃ q : World, q = w' := ⟨_, rfl⟩
    subst hww
    have hX2 : Hid (Below w1.heap.size w1 w2) := hb
    have hz2 : W.heap.size + 1 ≤ w2.heap.size ∧ w1.heap.size + 0 ≤ w2.heap.size := by have h1 := hb.size; (try simp at h1); omega
    have HB2 : Hid (Below W.heap.size W w2) := HB1.out.trans (hX2.out.mono (by omega))
    have A0_2 := Lib.hid (A0_1.out.below rfl hX2.out)
    clear A0_1
    have A1_2 := Lib.hid (A1_1.out.below rfl hX2.out)
    clear A1_1
    have XaWithin_2 := Lib.hid (XaWithin_1.out.keep hX2.out)
    clear XaWithin_1
    clear c_aWithin0 c_aWithin1
    clear hb
    have Iw0_2 := Iw0_low
    clear Iw0_low
    -- x0 := toSpanS(aList)
    go_wp2_with fail
    go_at_call 35
    refine (HT0.out _ hX2.out).mono ?_
    rintro e w3 ⟨x0_0, x0_1, rfl, hown, hb⟩
    have Ix0_new := Lib.hid hown
    clear hown
    have hX3 : Hid (Below w2.heap.size w2 w3) := hb
    have hz3 : W.heap.size + 1 ≤ w3.heap.size ∧ w2.heap.size + 0 ≤ w3.heap.size := by have h1 := hb.size; (try simp at h1); omega
    have HB3 : Hid (Below W.heap.size W w3) := HB2.out.trans (hX3.out.mono (by omega))
    have A0_3 := Lib.hid (A0_2.out.below rfl hX3.out)
    clear A0_2
    have A1_3 := Lib.hid (A1_2.out.below rfl hX3.out)
    clear A1_2
    have XaWithin_3 := Lib.hid (XaWithin_2.out.keep hX3.out)
    clear XaWithin_2
    have Iw0_3 := Lib.hid (Iw0_2.out.later hX3.out)
    clear Iw0_2
    clear hb
    have Ix0_3 := Ix0_new
    clear Ix0_new
    -- g0, g1 := impl.FreeSpans(x0, toSpan(aWithin))
    have c_aWithin0 : w3.cell? ⟨W.heap.size, 0, none⟩ = some (.int .i64 d1.1) := XaWithin_3.out.1
    have c_aWithin1 : w3.cell? ⟨W.heap.size, 1, none⟩ = some (.int .i64 d1.2) := XaWithin_3.out.2.1
    go_wp2_with fail
    go_at_call 32
    refine (HT1.out _ ((hX1.out.trans (hX2.out.mono (by omega))).trans (hX3.out.mono (by omega)))).mono ?_
    rintro e w4 ⟨rfl, hown, hb⟩
    have Igt1_new := Lib.hid hown
    clear hown
    have hX4 : Hid (Below w3.heap.size w3 w4) := hb
    have hz4 : W.heap.size + 1 ≤ w4.heap.size ∧ w3.heap.size + 0 ≤ w4.heap.size := by have h1 := hb.size; (try simp at h1); omega
    have HB4 : Hid (Below W.heap.size W w4) := HB3.out.trans (hX4.out.mono (by omega))
    have A0_4 := Lib.hid (A0_3.out.below rfl hX4.out)
    clear A0_3
    have A1_4 := Lib.hid (A1_3.out.below rfl hX4.out)
    clear A1_3
    have XaWithin_4 := Lib.hid (XaWithin_3.out.keep hX4.out)
    clear XaWithin_3
    have Iw0_4 := Lib.hid (Iw0_3.out.later hX4.out)
    clear Iw0_3
    have Ix0_4 := Lib.hid (Ix0_3.out.later hX4.out)
    clear Ix0_3
    clear c_aWithin0 c_aWithin1
    clear hb
    have T1_4 := Igt1_new
    clear Igt1_new
    go_wp2_with fail
    go_at_call 15
    refine (HImpl.out _ _ _ ((Ix0_4.out).at) ((T1_4.out).at)).mono ?_
    rintro e w5 ⟨zg0, rfl, hi0, hb⟩
    obtain ⟨g0_0, g0_1, rfl⟩ := SpanS_open hi0.at
    have Ig0_new := Lib.hid hi0
    clear hi0
    have hX5 : Hid (Below w4.heap.size w4 w5) := hb
    have hz5 : W.heap.size + 1 ≤ w5.heap.size ∧ w4.heap.size + 0 ≤ w5.heap.size := by have h1 := hb.size; (try simp at h1); omega
    have HB5 : Hid (Below W.heap.size W w5) := HB4.out.trans (hX5.out.mono (by omega))
    have A0_5 := Lib.hid (A0_4.out.below rfl hX5.out)
    clear A0_4
    have A1_5 := Lib.hid (A1_4.out.below rfl hX5.out)
    clear A1_4
    have XaWithin_5 := Lib.hid (XaWithin_4.out.keep hX5.out)
    clear XaWithin_4
    have Iw0_5 := Lib.hid (Iw0_4.out.later hX5.out)
    clear Iw0_4
    have Ix0_5 := Lib.hid (Ix0_4.out.later hX5.out)
    clear Ix0_4
    have T1_5 := Lib.hid (T1_4.out.later hX5.out)
    clear T1_4
    clear hb
    clear T1_5
    have Ig0_5 := Ig0_new
    clear Ig0_new
    -- if !eqSpanS(g0, w0) || g1 != w1 {
    go_wp2_with fail
    go_at_call 36
    refine (eqSpanS_x _ _ r0 _ ((Ig0_5.out).at) ((Iw0_5.out).at) HQ0.out).mono ?_
    rintro e w6 ⟨rfl, hb⟩
    have hX6 : Hid (Below w5.heap.size w5 w6) := hb
    have hz6 : W.heap.size + 1 ≤ w6.heap.size ∧ w5.heap.size + 0 ≤ w6.heap.size := by have h1 := hb.size; (try simp at h1); omega
    have HB6 : Hid (Below W.heap.size W w6) := HB5.out.trans (hX6.out.mono (by omega))
    have A0_6 := Lib.hid (A0_5.out.below rfl hX6.out)
    clear A0_5
    have A1_6 := Lib.hid (A1_5.out.below rfl hX6.out)
    clear A1_5
    have XaWithin_6 := Lib.hid (XaWithin_5.out.keep hX6.out)
    clear XaWithin_5
    have Iw0_6 := Lib.hid (Iw0_5.out.later hX6.out)
    clear Iw0_5
    have Ix0_6 := Lib.hid (Ix0_5.out.later hX6.out)
    clear Ix0_5
    have Ig0_6 := Lib.hid (Ig0_5.out.later hX6.out)
    clear Ig0_5
    clear hb
    -- if !eqSpanS(x0, toSpanS(aList)) {
    go_wp2_with fail
    go_at_call 35
    refine (HT0.out _ ((((hX2.out.trans (hX3.out.mono (by omega))).trans (hX4.out.mono (by omega))).trans (hX5.out.mono (by omega))).trans (hX6.out.mono (by omega)))).mono ?_
    rintro e w7 ⟨yy0_0, yy0_1, rfl, hown, hb⟩
    have IT_new := Lib.hid hown
    clear hown
    have hX7 : Hid (Below w6.heap.size w6 w7) := hb
    have hz7 : W.heap.size + 1 ≤ w7.heap.size ∧ w6.heap.size + 0 ≤ w7.heap.size := by have h1 := hb.size; (try simp at h1); omega
    have HB7 : Hid (Below W.heap.size W w7) := HB6.out.trans (hX7.out.mono (by omega))
    have A0_7 := Lib.hid (A0_6.out.below rfl hX7.out)
    clear A0_6
    have A1_7 := Lib.hid (A1_6.out.below rfl hX7.out)
    clear A1_6
    have XaWithin_7 := Lib.hid (XaWithin_6.out.keep hX7.out)
    clear XaWithin_6
    have Iw0_7 := Lib.hid (Iw0_6.out.later hX7.out)
    clear Iw0_6
    have Ix0_7 := Lib.hid (Ix0_6.out.later hX7.out)
    clear Ix0_6
    have Ig0_7 := Lib.hid (Ig0_6.out.later hX7.out)
    clear Ig0_6
    clear hb
    have T9_7 := IT_new
    clear IT_new
    go_wp2_with fail
    go_at_call 36
    refine (eqSpanS_x _ _ d0 _ ((Ix0_7.out).at) ((T9_7.out).at) HSm0.out).mono ?_
    rintro e w8 ⟨rfl, hb⟩
    have hX8 : Hid (Below w7.heap.size w7 w8) := hb
    have hz8 : W.heap.size + 1 ≤ w8.heap.size ∧ w7.heap.size + 0 ≤ w8.heap.size := by have h1 := hb.size; (try simp at h1); omega
    have HB8 : Hid (Below W.heap.size W w8) := HB7.out.trans (hX8.out.mono (by omega))
    have A0_8 := Lib.hid (A0_7.out.below rfl hX8.out)
    clear A0_7
    have A1_8 := Lib.hid (A1_7.out.below rfl hX8.out)
    clear A1_7
    have XaWithin_8 := Lib.hid (XaWithin_7.out.keep hX8.out)
    clear XaWithin_7
    have Iw0_8 := Lib.hid (Iw0_7.out.later hX8.out)
    clear Iw0_7
    have Ix0_8 := Lib.hid (Ix0_7.out.later hX8.out)
    clear Ix0_7
    have Ig0_8 := Lib.hid (Ig0_7.out.later hX8.out)
    clear Ig0_7
    have T9_8 := Lib.hid (T9_7.out.later hX8.out)
    clear T9_7
    clear hb
    clear T9_8
    -- k = markSpanS(x0, k)
    clear A0_8
    clear A1_8
    go_wp2_with fail
    have hsm0 := HSm0.out
    try unfold SpansSmall at hsm0
    go_at_call 37
    refine (markSpanS_x _ d0 _ _ _ _ Ix0_8.out (by omega) HSm0.out (by omega) (by omega)).mono ?_
    rintro e w9 ⟨rfl, hmk, hgr, ho⟩
    clear hmk hgr
    have hX9 : Hid (Out (_) (_) w8 w9) := ho
    have hz9 : W.heap.size + 1 ≤ w9.heap.size ∧ w8.heap.size ≤ w9.heap.size := ⟨by have := hX9.out.below.size; omega, hX9.out.below.size⟩
    have HB9 : Hid (Below W.heap.size W w9) := HB8.out.trans (hX9.out.below.mono (by omega))
    have XaWithin_9 := Lib.hid (XaWithin_8.out.out hX9.out (by omega))
    clear XaWithin_8
    have Iw0_9 := Lib.hid (Iw0_8.out.out hX9.out (by omega))
    clear Iw0_8
    clear Ix0_8
    have Ig0_9 := Lib.hid (Ig0_8.out.out hX9.out (by omega))
    clear Ig0_8
    clear ho
    -- if k < 0 || !eqSpanS(g0, w0) || g1 != w1 {
    go_wp2_with fail
    go_at_call 36
    refine (eqSpanS_x _ _ r0 _ ((Ig0_9.out).at) ((Iw0_9.out).at) HQ0.out).mono ?_
    rintro e w10 ⟨rfl, hb⟩
    have hX10 : Hid (Below w9.heap.size w9 w10) := hb
    have hz10 : W.heap.size + 1 ≤ w10.heap.size ∧ w9.heap.size + 0 ≤ w10.heap.size := by have h1 := hb.size; (try simp at h1); omega
    have HB10 : Hid (Below W.heap.size W w10) := HB9.out.trans (hX10.out.mono (by omega))
    have XaWithin_10 := Lib.hid (XaWithin_9.out.keep hX10.out)
    clear XaWithin_9
    have Iw0_10 := Lib.hid (Iw0_9.out.later hX10.out)
    clear Iw0_9
    have Ig0_10 := Lib.hid (Ig0_9.out.later hX10.out)
    clear Ig0_9
    clear hb
    -- m = markSpanS(g0, m)
    go_wp2_with fail
    have hsq0 := HQ0.out
    try unfold SpansSmall at hsq0
    go_at_call 37
    refine (markSpanS_x _ r0 _ _ _ _ Ig0_10.out (by omega) HQ0.out (by omega) (by omega)).mono ?_
    rintro e w11 ⟨rfl, hmk, hgr, ho⟩
    have M0_new := Lib.hid hmk
    clear hmk hgr
    have hX11 : Hid (Out (_) (_) w10 w11) := ho
    have hz11 : W.heap.size + 1 ≤ w11.heap.size ∧ w10.heap.size ≤ w11.heap.size := ⟨by have := hX11.out.below.size; omega, hX11.out.below.size⟩
    have HB11 : Hid (Below W.heap.size W w11) := HB10.out.trans (hX11.out.below.mono (by omega))
    have XaWithin_11 := Lib.hid (XaWithin_10.out.out hX11.out (by omega))
    clear XaWithin_10
    have Iw0_11 := Lib.hid (Iw0_10.out.out hX11.out (by omega))
    clear Iw0_10
    clear Ig0_10
    clear ho
    have M0_11 := M0_new
    clear M0_new
    -- q = heldSpanS(g0, q)
    go_wp2_with fail
    go_at_call 38
    refine (heldSpanS_x _ r0 _ _ (M0_11.out) HQ0.out (by omega) (by omega)).mono ?_
    rintro e w12 ⟨rfl, hb⟩
    have hX12 : Hid (Below w11.heap.size w11 w12) := hb
    have hz12 : W.heap.size + 1 ≤ w12.heap.size ∧ w11.heap.size + 0 ≤ w12.heap.size := by have h1 := hb.size; (try simp at h1); omega
    have HB12 : Hid (Below W.heap.size W w12) := HB11.out.trans (hX12.out.mono (by omega))
    have XaWithin_12 := Lib.hid (XaWithin_11.out.keep hX12.out)
    clear XaWithin_11
    have Iw0_12 := Lib.hid (Iw0_11.out.later hX12.out)
    clear Iw0_11
    have M0_12 := Lib.hid (M0_11.out.later hX12.out)
    clear M0_11
    clear hb
    have hqq : ((1 : Int) + 2 * (r0.length : Int) != 1 + 2 * (r0.length : Int)) = false := by simp
    -- h0, h1 := impl.FreeSpans(toSpanS(aList), toSpan(aWithin))
    have c_aWithin0 : w12.cell? ⟨W.heap.size, 0, none⟩ = some (.int .i64 d1.1) := XaWithin_12.out.1
    have c_aWithin1 : w12.cell? ⟨W.heap.size, 1, none⟩ = some (.int .i64 d1.2) := XaWithin_12.out.2.1
    go_wp2_with fail
    go_region_held3 (fun w' => w'.cell? ⟨W.heap.size, 0, none⟩ = some (.int .i64 d1.1) ∧ w'.cell? ⟨W.heap.size, 1, none⟩ = some (.int .i64 d1.2) ∧ Below w12.heap.size w12 w')
      (first | (exact ⟨c_aWithin0, c_aWithin1, (Below.refl _ _).drew⟩) | (exact keep2 hb (by assumption)) | (exact keep2 hb0 (by assumption)) | (exact keep2 hb1 (by assumption)))
      (first | (go_at_call_of 35 d0; refine (HT0.out _ (((((((((((hX2.out.trans (hX3.out.mono (by omega))).trans (hX4.out.mono (by omega))).trans (hX5.out.mono (by omega))).trans (hX6.out.mono (by omega))).trans (hX7.out.mono (by omega))).trans (hX8.out.mono (by omega))).trans (hX9.out.below.mono (by omega))).trans (hX10.out.mono (by omega))).trans (hX11.out.below.mono (by omega))).trans (hX12.out.mono (by omega))).trans ((bel2 (by assumption)).mono (by omega)))).mono ?_; rintro e w' ⟨yh0_0, yh0_1, rfl, hown0, hb0⟩) | (go_at_call_of 32 d1; refine (HT1.out _ ((((((((((((hX1.out.trans (hX2.out.mono (by omega))).trans (hX3.out.mono (by omega))).trans (hX4.out.mono (by omega))).trans (hX5.out.mono (by omega))).trans (hX6.out.mono (by omega))).trans (hX7.out.mono (by omega))).trans (hX8.out.mono (by omega))).trans (hX9.out.below.mono (by omega))).trans (hX10.out.mono (by omega))).trans (hX11.out.below.mono (by omega))).trans (hX12.out.mono (by omega))).trans ((bel2 (by assumption)).mono (by omega)))).mono ?_; rintro e w' ⟨rfl, hown1, hb1⟩) | (go_at_call 15; refine (HImpl.out _ _ _ (by first | exact hown0.at | exact hown0.at.below rfl hb1) (by first | exact hown1.at | exact hown1.at.below rfl hb0)).mono ?_; rintro e w' ⟨zh0, rfl, hi0, hb⟩))
    all_goals
      have hS : w'.cell? ⟨W.heap.size, 0, none⟩ = some (.int .i64 d1.1) ∧ w'.cell? ⟨W.heap.size, 1, none⟩ = some (.int .i64 d1.2) ∧ Below w12.heap.size w12 w' := by assumption
      obtain ⟨h0_0, h0_1, rfl⟩ := SpanS_open hi0.at
      have Ih0_new := Lib.hid hi0
      clear hi0
      have Ih0_low := Lib.hid (Ih0_new.out.base (Nat.zero_le _) (Nat.le_refl _))
      clear Ih0_new
      clear hb hown0 hown1 hb0 hb1
      obtain ⟨_, _, hb⟩ := hS
      obtain ⟨w13, hww⟩ : ∃ q : World, q = w' := ⟨_, rfl⟩
      subst hww
      have hX13 : Hid (Below w12.heap.size w12 w13) := hb
      have hz13 : W.heap.size + 1 ≤ w13.heap.size ∧ w12.heap.size + 0 ≤ w13.heap.size := by have h1 := hb.size; (try simp at h1); omega
      have HB13 : Hid (Below W.heap.size W w13) := HB12.out.trans (hX13.out.mono (by omega))
      have XaWithin_13 := Lib.hid (XaWithin_12.out.keep hX13.out)
      clear XaWithin_12
      have Iw0_13 := Lib.hid (Iw0_12.out.later hX13.out)
      clear Iw0_12
      have M0_13 := Lib.hid (M0_12.out.later hX13.out)
      clear M0_12
      clear c_aWithin0 c_aWithin1
      clear hb
      have Ih0_13 := Ih0_low
      clear Ih0_low
      -- if !eqSpanS(h0, w0) || h1 != w1 {
      go_wp2_with fail
      go_at_call 36
      refine (eqSpanS_x _ _ r0 _ ((Ih0_13.out).at) ((Iw0_13.out).at) HQ0.out).mono ?_
      rintro e w14 ⟨rfl, hb⟩
      have hX14 : Hid (Below w13.heap.size w13 w14) := hb
      have hz14 : W.heap.size + 1 ≤ w14.heap.size ∧ w13.heap.size + 0 ≤ w14.heap.size := by have h1 := hb.size; (try simp at h1); omega
      have HB14 : Hid (Below W.heap.size W w14) := HB13.out.trans (hX14.out.mono (by omega))
      have XaWithin_14 := Lib.hid (XaWithin_13.out.keep hX14.out)
      clear XaWithin_13
      have Iw0_14 := Lib.hid (Iw0_13.out.later hX14.out)
      clear Iw0_13
      have M0_14 := Lib.hid (M0_13.out.later hX14.out)
      clear M0_13
      have Ih0_14 := Lib.hid (Ih0_13.out.later hX14.out)
      clear Ih0_13
      clear hb
      clear Ih0_14
      -- q = heldSpanS(g0, q)
      go_wp2_with fail
      go_at_call 38
      refine (heldSpanS_x _ r0 _ _ (M0_14.out) HQ0.out (by omega) (by omega)).mono ?_
      rintro e w15 ⟨rfl, hb⟩
      have hX15 : Hid (Below w14.heap.size w14 w15) := hb
      have hz15 : W.heap.size + 1 ≤ w15.heap.size ∧ w14.heap.size + 0 ≤ w15.heap.size := by have h1 := hb.size; (try simp at h1); omega
      have HB15 : Hid (Below W.heap.size W w15) := HB14.out.trans (hX15.out.mono (by omega))
      have XaWithin_15 := Lib.hid (XaWithin_14.out.keep hX15.out)
      clear XaWithin_14
      have Iw0_15 := Lib.hid (Iw0_14.out.later hX15.out)
      clear Iw0_14
      have M0_15 := Lib.hid (M0_14.out.later hX15.out)
      clear M0_14
      clear hb
      have hqq : ((1 : Int) + 2 * (r0.length : Int) != 1 + 2 * (r0.length : Int)) = false := by simp
      go_wp2_with fail
      go_ret
      exact ⟨rfl, HB15.out⟩
end Go.Proofs.Ytenbplehiaofmaa.fnExactFreeSpans
