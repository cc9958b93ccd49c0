/-
  THE WALK of laws.FnExactBestOffsets: for every argument the law returns true and nothing that was in memory turns.
-/
import Derived.Test.YtfgkfdkdjegaiaaBestOffsets
import Derived.Test.YtfgkfdkdjegaiaaMb
import Derived.Test.YtfgkfdkdjegaiaaPatternHeld
import Derived.Test.YtfgkfdkdjegaiaaMa
namespace Go.Proofs.Ytfgkfdkdjegaiaa.fnExactBestOffsets
open Go.RowKit
set_option linter.unusedVariables false
set_option linter.unusedSimpArgs false

theorem keep4 {W w w' : World} {p0 p1 p2 p3 : Addr} {x0 x1 x2 x3 : Value} (hb : Below w.heap.size w w') (h : w.cell? p0 = some x0 ∧ w.cell? p1 = some x1 ∧ w.cell? p2 = some x2 ∧ w.cell? p3 = some x3 ∧ Below W.heap.size W w) : w'.cell? p0 = some x0 ∧ w'.cell? p1 = some x1 ∧ w'.cell? p2 = some x2 ∧ w'.cell? p3 = some x3 ∧ Below W.heap.size W w' := by
  obtain ⟨h0, h1, h2, h3, hl⟩ := h
  exact ⟨bkeep hb h0, bkeep hb h1, bkeep hb h2, bkeep hb h3, hl.trans (hb.mono hl.size)⟩
theorem bel4 {W w : World} {p0 p1 p2 p3 : Addr} {x0 x1 x2 x3 : Value} (h : w.cell? p0 = some x0 ∧ w.cell? p1 = some x1 ∧ w.cell? p2 = some x2 ∧ w.cell? p3 = some x3 ∧ Below W.heap.size W w) : Below W.heap.size W w := h.2.2.2.2

set_option maxRecDepth 100000 in
set_option maxHeartbeats 8000000 in
theorem walk (v0 : Value) (a1 : Int) (v2 : Value) (a3 : Int) (W : World) (S0 : ∃ d, NetAt W v0 d ∧ NetFits d) (w1 : (Lit.int .i64 a1).wf = true) (S2 : ∃ d, PatternsAt W v2 d ∧ PatternsFit d) (w3 : (Lit.int .i64 a3).wf = true) (hL : laidMetH Try.prog Rows.fnExactBestOffsetsRow.laid W) (hsh : W.ShapedOpen Try.prog) :
    Calls Try.prog 10 #[v0, .int .i64 a1, v2, .int .i64 a3] W fun e w' => e = .returned (.bool true) ∧ Below W.heap.size W w' := by
  clear hL hsh
  obtain ⟨d0, hr0, hf0⟩ := S0
  obtain ⟨u0_0, u0_1, u0_2, u0_3, rfl⟩ := Network_open hr0
  have A0_0 := Lib.hid hr0
  have HF0 := Lib.hid hf0
  clear hr0 hf0
  obtain ⟨d2, hr2, hf2⟩ := S2
  obtain ⟨u2_0, u2_1, rfl⟩ := PatternS_open hr2
  have A2_0 := Lib.hid hr2
  have HF2 := Lib.hid hf2
  clear hr2 hf2
  have Hw1 := Lib.hid w1
  clear w1
  have Hw3 := Lib.hid w3
  clear w3
  go_enter Try.func10, Try.ntmps10
  -- left = szNetwork(aN, left)
  go_wp2_with fail
  go_at_call 40
  refine (szNetwork_x _ d0 _ _ ((A0_0.out).below rfl ((Below.refl _ _).alloc (by first | omega | (simp; omega) | simp) _)) HF0.out (by omega) (by omega)).mono ?_
  rintro e w1 ⟨⟨z0, rfl, hz⟩, hb⟩
  have hX1 : Hid (Below W.heap.size W w1) := ((Below.refl _ _).alloc (by first | omega | (simp; omega) | simp) _).trans (hb.mono (by first | omega | (simp; omega) | simp))
  have hz1 : W.heap.size + 1 ≤ w1.heap.size ∧ W.heap.size + 1 ≤ w1.heap.size := by have h1 := hb.size; (try simp at h1); omega
  have HB1 : Hid (Below W.heap.size W w1) := hX1
  have A0_1 := Lib.hid (A0_0.out.below rfl hX1.out)
  clear A0_0
  have A2_1 := Lib.hid (A2_0.out.below rfl hX1.out)
  clear A2_0
  have n_0 : w1.cell? ⟨W.heap.size, 0, none⟩ = some (.slice u0_0 d0.stops.length u0_1) := bkeep hb (by go_simp)
  have n_1 : w1.cell? ⟨W.heap.size, 1, none⟩ = some (.slice u0_2 d0.lines.length u0_3) := bkeep hb (by go_simp)
  have XaN_1 : Hid (CellsF w1 (W.heap.size) 0 [(.slice u0_0 d0.stops.length u0_1), (.slice u0_2 d0.lines.length u0_3)]) := ⟨n_0, n_1, trivial⟩
  clear n_0 n_1
  clear hb
  rcases hz with rfl | ⟨hz0, hz1, hsm⟩
  · go_wp2_with fail
    go_ret
    exact ⟨rfl, HB1.out⟩
  have HSm0 := Lib.hid hsm
  clear hsm
  have HT0 := Lib.hid (fun w (h : Below w1.heap.size w1 w) => toNetwork_x _ d0 w (A0_1.out.below rfl h) HSm0.out)
  -- left = szPatternS(aList, left)
  go_wp2_with fail
  go_at_call 41
  refine (szPatternS_x _ d2 _ _ (A2_1.out) HF2.out (by omega) (by omega)).mono ?_
  rintro e w2 ⟨⟨z2, rfl, hz⟩, hb⟩
  have hX2 : Hid (Below w1.heap.size w1 w2) := hb
  have hz2 : W.heap.size + 1 ≤ w2.heap.size ∧ w1.heap.size + 0 ≤ w2.heap.size := by have h1 := hb.size; (try simp at h1); omega
  have HB2 : Hid (Below W.heap.size W w2) := HB1.out.trans (hX2.out.mono (by omega))
  have A0_2 := Lib.hid (A0_1.out.below rfl hX2.out)
  clear A0_1
  have A2_2 := Lib.hid (A2_1.out.below rfl hX2.out)
  clear A2_1
  have XaN_2 := Lib.hid (XaN_1.out.keep hX2.out)
  clear XaN_1
  clear hb
  rcases hz with rfl | ⟨hz0, hz1, hsm⟩
  · go_wp2_with fail
    go_ret
    exact ⟨rfl, HB2.out⟩
  have HSm2 := Lib.hid hsm
  clear hsm
  have HT2 := Lib.hid (fun w (h : Below w2.heap.size w2 w) => toPatternS_x _ d2 w (A2_2.out.below rfl h) HSm2.out)
  obtain ⟨r0, r1, r2, hq0, hboth⟩ := bothBestOffsets d0 HF0.out HSm0.out a1 Hw1.out d2 HF2.out HSm2.out a3 Hw3.out
  have HQ0 := Lib.hid hq0
  clear hq0
  have HSpec := Lib.hid (fun v0 v2 w (h0 : NetAt w v0 d0) (h2 : PatternsAt w v2 d2) => (hboth v0 v2 w h0 h2).1)
  have HImpl := Lib.hid (fun v0 v2 w (h0 : NetAt w v0 d0) (h2 : PatternsAt w v2 d2) => (hboth v0 v2 w h0 h2).2)
  clear hboth
  have hne1 : (r1 != r1) = false := by simp
  have hne2 : (r2 != r2) = false := by simp
  -- w0, w1, w2 := spec.BestOffsets(toNetwork(aN), aPeriod, toPatternS(aList), aStop)
  have c_aN0 : w2.cell? ⟨W.heap.size, 0, none⟩ = some (.slice u0_0 d0.stops.length u0_1) := XaN_2.out.1
  have c_aN1 : w2.cell? ⟨W.heap.size, 1, none⟩ = some (.slice u0_2 d0.lines.length u0_3) := XaN_2.out.2.1
  go_wp2_with fail
  go_at_call 43
  refine (HT0.out _ hX2.out).mono ?_
  rintro e w3 ⟨yw0_0, yw0_1, yw0_2, yw0_3, rfl, hown, hb⟩
  have Iwt0_new := Lib.hid hown
  clear hown
  have hX3 : Hid (Below w2.heap.size w2 w3) := hb
  have hz3 : W.heap.size + 1 ≤ w3.heap.size ∧ w2.heap.size + 0 ≤ w3.heap.size := by have h1 := hb.size; (try simp at h1); omega
  have HB3 : Hid (Below W.heap.size W w3) := HB2.out.trans (hX3.out.mono (by omega))
  have A0_3 := Lib.hid (A0_2.out.below rfl hX3.out)
  clear A0_2
  have A2_3 := Lib.hid (A2_2.out.below rfl hX3.out)
  clear A2_2
  have XaN_3 := Lib.hid (XaN_2.out.keep hX3.out)
  clear XaN_2
  clear c_aN0 c_aN1
  clear hb
  have T0_3 := Iwt0_new
  clear Iwt0_new
  go_wp2_with fail
  go_at_call 44
  refine (HT2.out _ hX3.out).mono ?_
  rintro e w4 ⟨yw2_0, yw2_1, rfl, hown, hb⟩
  have Iwt2_new := Lib.hid hown
  clear hown
  have hX4 : Hid (Below w3.heap.size w3 w4) := hb
  have hz4 : W.heap.size + 1 ≤ w4.heap.size ∧ w3.heap.size + 0 ≤ w4.heap.size := by have h1 := hb.size; (try simp at h1); omega
  have HB4 : Hid (Below W.heap.size W w4) := HB3.out.trans (hX4.out.mono (by omega))
  have A0_4 := Lib.hid (A0_3.out.below rfl hX4.out)
  clear A0_3
  have A2_4 := Lib.hid (A2_3.out.below rfl hX4.out)
  clear A2_3
  have XaN_4 := Lib.hid (XaN_3.out.keep hX4.out)
  clear XaN_3
  have T0_4 := Lib.hid (T0_3.out.later hX4.out)
  clear T0_3
  clear hb
  have T2_4 := Iwt2_new
  clear Iwt2_new
  go_wp2_with fail
  go_at_call 30
  refine (HSpec.out _ _ _ ((T0_4.out).at) ((T2_4.out).at)).mono ?_
  rintro e w5 ⟨zw0, rfl, hi0, hb⟩
  obtain ⟨w0_0, w0_1, rfl⟩ := IntS_open hi0.at
  have Iw0_new := Lib.hid hi0
  clear hi0
  have hX5 : Hid (Below w4.heap.size w4 w5) := hb
  have hz5 : W.heap.size + 1 ≤ w5.heap.size ∧ w4.heap.size + 0 ≤ w5.heap.size := by have h1 := hb.size; (try simp at h1); omega
  have HB5 : Hid (Below W.heap.size W w5) := HB4.out.trans (hX5.out.mono (by omega))
  have A0_5 := Lib.hid (A0_4.out.below rfl hX5.out)
  clear A0_4
  have A2_5 := Lib.hid (A2_4.out.below rfl hX5.out)
  clear A2_4
  have XaN_5 := Lib.hid (XaN_4.out.keep hX5.out)
  clear XaN_4
  have T0_5 := Lib.hid (T0_4.out.later hX5.out)
  clear T0_4
  have T2_5 := Lib.hid (T2_4.out.later hX5.out)
  clear T2_4
  clear hb
  clear T0_5
  clear T2_5
  have Iw0_5 := Iw0_new
  clear Iw0_new
  -- x0 := toNetwork(aN)
  have c_aN0 : w5.cell? ⟨W.heap.size, 0, none⟩ = some (.slice u0_0 d0.stops.length u0_1) := XaN_5.out.1
  have c_aN1 : w5.cell? ⟨W.heap.size, 1, none⟩ = some (.slice u0_2 d0.lines.length u0_3) := XaN_5.out.2.1
  go_wp2_with fail
  go_at_call 43
  refine (HT0.out _ (((hX2.out.trans (hX3.out.mono (by omega))).trans (hX4.out.mono (by omega))).trans (hX5.out.mono (by omega)))).mono ?_
  rintro e w6 ⟨x0_0, x0_1, x0_2, x0_3, rfl, hown, hb⟩
  have Ix0_new := Lib.hid hown
  clear hown
  have hX6 : Hid (Below w5.heap.size w5 w6) := hb
  have hz6 : W.heap.size + 1 ≤ w6.heap.size ∧ w5.heap.size + 0 ≤ w6.heap.size := by have h1 := hb.size; (try simp at h1); omega
  have HB6 : Hid (Below W.heap.size W w6) := HB5.out.trans (hX6.out.mono (by omega))
  have A0_6 := Lib.hid (A0_5.out.below rfl hX6.out)
  clear A0_5
  have A2_6 := Lib.hid (A2_5.out.below rfl hX6.out)
  clear A2_5
  have XaN_6 := Lib.hid (XaN_5.out.keep hX6.out)
  clear XaN_5
  have Iw0_6 := Lib.hid (Iw0_5.out.later hX6.out)
  clear Iw0_5
  clear c_aN0 c_aN1
  clear hb
  have Ix0_6 := Ix0_new
  clear Ix0_new
  -- x2 := toPatternS(aList)
  go_wp2_with fail
  go_at_call 44
  refine (HT2.out _ ((((hX3.out.trans (hX4.out.mono (by omega))).trans (hX5.out.mono (by omega))).trans (hX6.out.mono (by omega))).alloc (by first | omega | (simp; omega) | simp) _)).mono ?_
  rintro e w7 ⟨x2_0, x2_1, rfl, hown, hb⟩
  simp only [World.size_alloc] at hown
  have Ix2_new := Lib.hid hown
  clear hown
  have hX7 : Hid (Below w6.heap.size w6 w7) := ((Below.refl _ _).alloc (by first | omega | (simp; omega) | simp) _).trans (hb.mono (by first | omega | (simp; omega) | simp))
  have hz7 : W.heap.size + 1 ≤ w7.heap.size ∧ w6.heap.size + 1 ≤ w7.heap.size := by have h1 := hb.size; (try simp at h1); omega
  have HB7 : Hid (Below W.heap.size W w7) := HB6.out.trans (hX7.out.mono (by omega))
  have A0_7 := Lib.hid (A0_6.out.below rfl hX7.out)
  clear A0_6
  have A2_7 := Lib.hid (A2_6.out.below rfl hX7.out)
  clear A2_6
  have XaN_7 := Lib.hid (XaN_6.out.keep hX7.out)
  clear XaN_6
  have Iw0_7 := Lib.hid (Iw0_6.out.later hX7.out)
  clear Iw0_6
  have Ix0_7 := Lib.hid (Ix0_6.out.later hX7.out)
  clear Ix0_6
  have n_0 : w7.cell? ⟨w6.heap.size, 0, none⟩ = some (.slice x0_0 d0.stops.length x0_1) := bkeep hb (by go_simp)
  have n_1 : w7.cell? ⟨w6.heap.size, 1, none⟩ = some (.slice x0_2 d0.lines.length x0_3) := bkeep hb (by go_simp)
  have Xx0_7 : Hid (CellsF w7 (w6.heap.size) 0 [(.slice x0_0 d0.stops.length x0_1), (.slice x0_2 d0.lines.length x0_3)]) := ⟨n_0, n_1, trivial⟩
  clear n_0 n_1
  clear hb
  have Ix2_7 := Ix2_new
  clear Ix2_new
  -- g0, g1, g2 := impl.BestOffsets(x0, aPeriod, x2, aStop)
  have c_x00 : w7.cell? ⟨w6.heap.size, 0, none⟩ = some (.slice x0_0 d0.stops.length x0_1) := Xx0_7.out.1
  have c_x01 : w7.cell? ⟨w6.heap.size, 1, none⟩ = some (.slice x0_2 d0.lines.length x0_3) := Xx0_7.out.2.1
  go_wp2_with fail
  go_at_call 29
  refine (HImpl.out _ _ _ ((Ix0_7.out).at) ((Ix2_7.out).at)).mono ?_
  rintro e w8 ⟨zg0, rfl, hi0, hb⟩
  obtain ⟨g0_0, g0_1, rfl⟩ := IntS_open hi0.at
  have Ig0_new := Lib.hid hi0
  clear hi0
  have hX8 : Hid (Below w7.heap.size w7 w8) := hb
  have hz8 : W.heap.size + 1 ≤ w8.heap.size ∧ w7.heap.size + 0 ≤ w8.heap.size := by have h1 := hb.size; (try simp at h1); omega
  have HB8 : Hid (Below W.heap.size W w8) := HB7.out.trans (hX8.out.mono (by omega))
  have A0_8 := Lib.hid (A0_7.out.below rfl hX8.out)
  clear A0_7
  have A2_8 := Lib.hid (A2_7.out.below rfl hX8.out)
  clear A2_7
  have XaN_8 := Lib.hid (XaN_7.out.keep hX8.out)
  clear XaN_7
  have Iw0_8 := Lib.hid (Iw0_7.out.later hX8.out)
  clear Iw0_7
  have Ix0_8 := Lib.hid (Ix0_7.out.later hX8.out)
  clear Ix0_7
  have Xx0_8 := Lib.hid (Xx0_7.out.keep hX8.out)
  clear Xx0_7
  have Ix2_8 := Lib.hid (Ix2_7.out.later hX8.out)
  clear Ix2_7
  clear c_x00 c_x01
  clear hb
  have Ig0_8 := Ig0_new
  clear Ig0_new
  -- if !eqIntS(g0, w0) || g1 != w1 || g2 != w2 {
  go_wp2_with fail
  go_at_call 48
  refine (eqIntS_x _ _ r0 _ ((Ig0_8.out).at) ((Iw0_8.out).at) HQ0.out).mono ?_
  rintro e w9 ⟨rfl, hb⟩
  have hX9 : Hid (Below w8.heap.size w8 w9) := hb
  have hz9 : W.heap.size + 1 ≤ w9.heap.size ∧ w8.heap.size + 0 ≤ w9.heap.size := by have h1 := hb.size; (try simp at h1); omega
  have HB9 : Hid (Below W.heap.size W w9) := HB8.out.trans (hX9.out.mono (by omega))
  have A0_9 := Lib.hid (A0_8.out.below rfl hX9.out)
  clear A0_8
  have A2_9 := Lib.hid (A2_8.out.below rfl hX9.out)
  clear A2_8
  have XaN_9 := Lib.hid (XaN_8.out.keep hX9.out)
  clear XaN_8
  have Iw0_9 := Lib.hid (Iw0_8.out.later hX9.out)
  clear Iw0_8
  have Ix0_9 := Lib.hid (Ix0_8.out.later hX9.out)
  clear Ix0_8
  have Xx0_9 := Lib.hid (Xx0_8.out.keep hX9.out)
  clear Xx0_8
  have Ix2_9 := Lib.hid (Ix2_8.out.later hX9.out)
  clear Ix2_8
  have Ig0_9 := Lib.hid (Ig0_8.out.later hX9.out)
  clear Ig0_8
  clear hb
  -- if !eqNetwork(x0, toNetwork(aN)) {
  have c_x00 : w9.cell? ⟨w6.heap.size, 0, none⟩ = some (.slice x0_0 d0.stops.length x0_1) := Xx0_9.out.1
  have c_x01 : w9.cell? ⟨w6.heap.size, 1, none⟩ = some (.slice x0_2 d0.lines.length x0_3) := Xx0_9.out.2.1
  have c_aN0 : w9.cell? ⟨W.heap.size, 0, none⟩ = some (.slice u0_0 d0.stops.length u0_1) := XaN_9.out.1
  have c_aN1 : w9.cell? ⟨W.heap.size, 1, none⟩ = some (.slice u0_2 d0.lines.length u0_3) := XaN_9.out.2.1
  go_wp2_with fail
  go_region_held3 (fun w' => w'.cell? ⟨w6.heap.size, 0, none⟩ = some (.slice x0_0 d0.stops.length x0_1) ∧ w'.cell? ⟨w6.heap.size, 1, none⟩ = some (.slice x0_2 d0.lines.length x0_3) ∧ w'.cell? ⟨W.heap.size, 0, none⟩ = some (.slice u0_0 d0.stops.length u0_1) ∧ w'.cell? ⟨W.heap.size, 1, none⟩ = some (.slice u0_2 d0.lines.length u0_3) ∧ Below w9.heap.size w9 w')
    (first | (exact ⟨c_x00, c_x01, c_aN0, c_aN1, (Below.refl _ _).drew⟩) | (exact keep4 hb (by assumption)))
    (first | (go_at_call 43; refine (HT0.out _ ((((((((hX2.out.trans (hX3.out.mono (by omega))).trans (hX4.out.mono (by omega))).trans (hX5.out.mono (by omega))).trans (hX6.out.mono (by omega))).trans (hX7.out.mono (by omega))).trans (hX8.out.mono (by omega))).trans (hX9.out.mono (by omega))).trans ((bel4 (by assumption)).mono (by omega)))).mono ?_; rintro e w' ⟨yy0_0, yy0_1, yy0_2, yy0_3, rfl, hown, hb⟩) | (go_at_call 45; refine (eqNetwork_x _ _ d0 _ (Ix0_9.out.at.below rfl (bel4 (by assumption))) hown.at HSm0.out).mono ?_; rintro e w' ⟨rfl, hb⟩))
  obtain ⟨_, _, _, _, hb⟩ := (by assumption : _ ∧ _)
  obtain ⟨w10, hww⟩ : ∃ q : World, q = w' := ⟨_, rfl⟩
  subst hww
  have hX10 : Hid (Below w9.heap.size w9 w10) := hb
  have hz10 : W.heap.size + 1 ≤ w10.heap.size ∧ w9.heap.size + 0 ≤ w10.heap.size := by have h1 := hb.size; (try simp at h1); omega
  have HB10 : Hid (Below W.heap.size W w10) := HB9.out.trans (hX10.out.mono (by omega))
  have A0_10 := Lib.hid (A0_9.out.below rfl hX10.out)
  clear A0_9
  have A2_10 := Lib.hid (A2_9.out.below rfl hX10.out)
  clear A2_9
  have XaN_10 := Lib.hid (XaN_9.out.keep hX10.out)
  clear XaN_9
  have Iw0_10 := Lib.hid (Iw0_9.out.later hX10.out)
  clear Iw0_9
  have Ix0_10 := Lib.hid (Ix0_9.out.later hX10.out)
  clear Ix0_9
  have Xx0_10 := Lib.hid (Xx0_9.out.keep hX10.out)
  clear Xx0_9
  have Ix2_10 := Lib.hid (Ix2_9.out.later hX10.out)
  clear Ix2_9
  have Ig0_10 := Lib.hid (Ig0_9.out.later hX10.out)
  clear Ig0_9
  clear c_x00 c_x01 c_aN0 c_aN1
  clear hb
  -- if !eqPatternS(x2, toPatternS(aList)) {
  go_wp2_with fail
  go_at_call 44
  refine (HT2.out _ (((((((hX3.out.trans (hX4.out.mono (by omega))).trans (hX5.out.mono (by omega))).trans (hX6.out.mono (by omega))).trans (hX7.out.mono (by omega))).trans (hX8.out.mono (by omega))).trans (hX9.out.mono (by omega))).trans (hX10.out.mono (by omega)))).mono ?_
  rintro e w11 ⟨yy2_0, yy2_1, rfl, hown, hb⟩
  have IT_new := Lib.hid hown
  clear hown
  have hX11 : Hid (Below w10.heap.size w10 w11) := hb
  have hz11 : W.heap.size + 1 ≤ w11.heap.size ∧ w10.heap.size + 0 ≤ w11.heap.size := by have h1 := hb.size; (try simp at h1); omega
  have HB11 : Hid (Below W.heap.size W w11) := HB10.out.trans (hX11.out.mono (by omega))
  have A0_11 := Lib.hid (A0_10.out.below rfl hX11.out)
  clear A0_10
  have A2_11 := Lib.hid (A2_10.out.below rfl hX11.out)
  clear A2_10
  have XaN_11 := Lib.hid (XaN_10.out.keep hX11.out)
  clear XaN_10
  have Iw0_11 := Lib.hid (Iw0_10.out.later hX11.out)
  clear Iw0_10
  have Ix0_11 := Lib.hid (Ix0_10.out.later hX11.out)
  clear Ix0_10
  have Xx0_11 := Lib.hid (Xx0_10.out.keep hX11.out)
  clear Xx0_10
  have Ix2_11 := Lib.hid (Ix2_10.out.later hX11.out)
  clear Ix2_10
  have Ig0_11 := Lib.hid (Ig0_10.out.later hX11.out)
  clear Ig0_10
  clear hb
  have T9_11 := IT_new
  clear IT_new
  go_wp2_with fail
  go_at_call 46
  refine (eqPatternS_x _ _ d2 _ ((Ix2_11.out).at) ((T9_11.out).at) HSm2.out).mono ?_
  rintro e w12 ⟨rfl, hb⟩
  have hX12 : Hid (Below w11.heap.size w11 w12) := hb
  have hz12 : W.heap.size + 1 ≤ w12.heap.size ∧ w11.heap.size + 0 ≤ w12.heap.size := by have h1 := hb.size; (try simp at h1); omega
  have HB12 : Hid (Below W.heap.size W w12) := HB11.out.trans (hX12.out.mono (by omega))
  have A0_12 := Lib.hid (A0_11.out.below rfl hX12.out)
  clear A0_11
  have A2_12 := Lib.hid (A2_11.out.below rfl hX12.out)
  clear A2_11
  have XaN_12 := Lib.hid (XaN_11.out.keep hX12.out)
  clear XaN_11
  have Iw0_12 := Lib.hid (Iw0_11.out.later hX12.out)
  clear Iw0_11
  have Ix0_12 := Lib.hid (Ix0_11.out.later hX12.out)
  clear Ix0_11
  have Xx0_12 := Lib.hid (Xx0_11.out.keep hX12.out)
  clear Xx0_11
  have Ix2_12 := Lib.hid (Ix2_11.out.later hX12.out)
  clear Ix2_11
  have Ig0_12 := Lib.hid (Ig0_11.out.later hX12.out)
  clear Ig0_11
  have T9_12 := Lib.hid (T9_11.out.later hX12.out)
  clear T9_11
  clear hb
  clear T9_12
  -- k = markNetwork(x0, k)
  have c_x00 : w12.cell? ⟨w6.heap.size, 0, none⟩ = some (.slice x0_0 d0.stops.length x0_1) := Xx0_12.out.1
  have c_x01 : w12.cell? ⟨w6.heap.size, 1, none⟩ = some (.slice x0_2 d0.lines.length x0_3) := Xx0_12.out.2.1
  clear A0_12
  clear A2_12
  go_wp2_with fail
  have hsm0 := HSm0.out
  try unfold NetSmall at hsm0
  obtain ⟨hta0, htb0⟩ := netTot_le HSm0.out
  go_at_call 49
  refine (markNetwork_x _ d0 _ _ _ _ Ix0_12.out (by omega) (by omega) HSm0.out (by omega) (by omega)).mono ?_
  rintro e w13 ⟨rfl, hmk, ho⟩
  clear hmk
  have hX13 : Hid (Out (_) (_) w12 w13) := ho
  have hz13 : W.heap.size + 1 ≤ w13.heap.size ∧ w12.heap.size ≤ w13.heap.size := ⟨by have := hX13.out.below.size; omega, hX13.out.below.size⟩
  have HB13 : Hid (Below W.heap.size W w13) := HB12.out.trans (hX13.out.below.mono (by omega))
  have XaN_13 := Lib.hid (XaN_12.out.out hX13.out (by omega))
  clear XaN_12
  have Iw0_13 := Lib.hid (Iw0_12.out.out hX13.out (by omega))
  clear Iw0_12
  clear Ix0_12
  have Xx0_13 := Lib.hid (Xx0_12.out.out hX13.out (by omega))
  clear Xx0_12
  have Ix2_13 := Lib.hid (Ix2_12.out.out hX13.out (by omega))
  clear Ix2_12
  have Ig0_13 := Lib.hid (Ig0_12.out.out hX13.out (by omega))
  clear Ig0_12
  clear c_x00 c_x01
  clear ho
  -- k = markPatternS(x2, k)
  go_wp2_with fail
  have hsm2 := HSm2.out
  try unfold PatternsSmall at hsm2
  go_at_call 50
  refine (markPatternS_x _ d2 _ _ _ _ Ix2_13.out (by omega) HSm2.out (by omega) (by omega)).mono ?_
  rintro e w14 ⟨rfl, hmk, hgr, ho⟩
  clear hmk hgr
  have hX14 : Hid (Out (_) (_) w13 w14) := ho
  have hz14 : W.heap.size + 1 ≤ w14.heap.size ∧ w13.heap.size ≤ w14.heap.size := ⟨by have := hX14.out.below.size; omega, hX14.out.below.size⟩
  have HB14 : Hid (Below W.heap.size W w14) := HB13.out.trans (hX14.out.below.mono (by omega))
  have XaN_14 := Lib.hid (XaN_13.out.out hX14.out (by omega))
  clear XaN_13
  have Iw0_14 := Lib.hid (Iw0_13.out.out hX14.out (by omega))
  clear Iw0_13
  have Xx0_14 := Lib.hid (Xx0_13.out.out hX14.out (by omega))
  clear Xx0_13
  clear Ix2_13
  have Ig0_14 := Lib.hid (Ig0_13.out.out hX14.out (by omega))
  clear Ig0_13
  clear ho
  -- if k < 0 || !eqIntS(g0, w0) || g1 != w1 || g2 != w2 {
  go_wp2_with fail
  go_at_call 48
  refine (eqIntS_x _ _ r0 _ ((Ig0_14.out).at) ((Iw0_14.out).at) HQ0.out).mono ?_
  rintro e w15 ⟨rfl, hb⟩
  have hX15 : Hid (Below w14.heap.size w14 w15) := hb
  have hz15 : W.heap.size + 1 ≤ w15.heap.size ∧ w14.heap.size + 0 ≤ w15.heap.size := by have h1 := hb.size; (try simp at h1); omega
  have HB15 : Hid (Below W.heap.size W w15) := HB14.out.trans (hX15.out.mono (by omega))
  have XaN_15 := Lib.hid (XaN_14.out.keep hX15.out)
  clear XaN_14
  have Iw0_15 := Lib.hid (Iw0_14.out.later hX15.out)
  clear Iw0_14
  have Xx0_15 := Lib.hid (Xx0_14.out.keep hX15.out)
  clear Xx0_14
  have Ig0_15 := Lib.hid (Ig0_14.out.later hX15.out)
  clear Ig0_14
  clear hb
  -- m = markIntS(g0, m)
  go_wp2_with fail
  have hsq0 := HQ0.out
  try unfold IntsSmall at hsq0
  go_at_call 51
  refine (markIntS_x _ r0 _ _ _ _ Ig0_15.out (by omega) HQ0.out (by omega) (by omega)).mono ?_
  rintro e w16 ⟨rfl, hmk, hgr, ho⟩
  have M0_new := Lib.hid hmk
  clear hmk hgr
  have hX16 : Hid (Out (_) (_) w15 w16) := ho
  have hz16 : W.heap.size + 1 ≤ w16.heap.size ∧ w15.heap.size ≤ w16.heap.size := ⟨by have := hX16.out.below.size; omega, hX16.out.below.size⟩
  have HB16 : Hid (Below W.heap.size W w16) := HB15.out.trans (hX16.out.below.mono (by omega))
  have XaN_16 := Lib.hid (XaN_15.out.out hX16.out (by omega))
  clear XaN_15
  have Iw0_16 := Lib.hid (Iw0_15.out.out hX16.out (by omega))
  clear Iw0_15
  have Xx0_16 := Lib.hid (Xx0_15.out.out hX16.out (by omega))
  clear Xx0_15
  clear Ig0_15
  clear ho
  have M0_16 := M0_new
  clear M0_new
  -- q = heldIntS(g0, q)
  go_wp2_with fail
  go_at_call 52
  refine (heldIntS_x _ r0 _ _ (M0_16.out) HQ0.out (by omega) (by omega)).mono ?_
  rintro e w17 ⟨rfl, hb⟩
  have hX17 : Hid (Below w16.heap.size w16 w17) := hb
  have hz17 : W.heap.size + 1 ≤ w17.heap.size ∧ w16.heap.size + 0 ≤ w17.heap.size := by have h1 := hb.size; (try simp at h1); omega
  have HB17 : Hid (Below W.heap.size W w17) := HB16.out.trans (hX17.out.mono (by omega))
  have XaN_17 := Lib.hid (XaN_16.out.keep hX17.out)
  clear XaN_16
  have Iw0_17 := Lib.hid (Iw0_16.out.later hX17.out)
  clear Iw0_16
  have Xx0_17 := Lib.hid (Xx0_16.out.keep hX17.out)
  clear Xx0_16
  have M0_17 := Lib.hid (M0_16.out.later hX17.out)
  clear M0_16
  clear hb
  have hqq : ((1 : Int) + (r0.length : Int) != 1 + (r0.length : Int)) = false := by simp
  -- h0, h1, h2 := impl.BestOffsets(toNetwork(aN), aPeriod, toPatternS(aList), aStop)
  have c_aN0 : w17.cell? ⟨W.heap.size, 0, none⟩ = some (.slice u0_0 d0.stops.length u0_1) := XaN_17.out.1
  have c_aN1 : w17.cell? ⟨W.heap.size, 1, none⟩ = some (.slice u0_2 d0.lines.length u0_3) := XaN_17.out.2.1
  go_wp2_with fail
  go_at_call 43
  refine (HT0.out _ (((((((((((((((hX2.out.trans (hX3.out.mono (by omega))).trans (hX4.out.mono (by omega))).trans (hX5.out.mono (by omega))).trans (hX6.out.mono (by omega))).trans (hX7.out.mono (by omega))).trans (hX8.out.mono (by omega))).trans (hX9.out.mono (by omega))).trans (hX10.out.mono (by omega))).trans (hX11.out.mono (by omega))).trans (hX12.out.mono (by omega))).trans (hX13.out.below.mono (by omega))).trans (hX14.out.below.mono (by omega))).trans (hX15.out.mono (by omega))).trans (hX16.out.below.mono (by omega))).trans (hX17.out.mono (by omega)))).mono ?_
  rintro e w18 ⟨yh0_0, yh0_1, yh0_2, yh0_3, rfl, hown, hb⟩
  have Iht0_new := Lib.hid hown
  clear hown
  have hX18 : Hid (Below w17.heap.size w17 w18) := hb
  have hz18 : W.heap.size + 1 ≤ w18.heap.size ∧ w17.heap.size + 0 ≤ w18.heap.size := by have h1 := hb.size; (try simp at h1); omega
  have HB18 : Hid (Below W.heap.size W w18) := HB17.out.trans (hX18.out.mono (by omega))
  have XaN_18 := Lib.hid (XaN_17.out.keep hX18.out)
  clear XaN_17
  have Iw0_18 := Lib.hid (Iw0_17.out.later hX18.out)
  clear Iw0_17
  have Xx0_18 := Lib.hid (Xx0_17.out.keep hX18.out)
  clear Xx0_17
  have M0_18 := Lib.hid (M0_17.out.later hX18.out)
  clear M0_17
  clear c_aN0 c_aN1
  clear hb
  have T0_18 := Iht0_new
  clear Iht0_new
  go_wp2_with fail
  go_at_call 44
  refine (HT2.out _ (((((((((((((((hX3.out.trans (hX4.out.mono (by omega))).trans (hX5.out.mono (by omega))).trans (hX6.out.mono (by omega))).trans (hX7.out.mono (by omega))).trans (hX8.out.mono (by omega))).trans (hX9.out.mono (by omega))).trans (hX10.out.mono (by omega))).trans (hX11.out.mono (by omega))).trans (hX12.out.mono (by omega))).trans (hX13.out.below.mono (by omega))).trans (hX14.out.below.mono (by omega))).trans (hX15.out.mono (by omega))).trans (hX16.out.below.mono (by omega))).trans (hX17.out.mono (by omega))).trans (hX18.out.mono (by omega)))).mono ?_
  rintro e w19 ⟨yh2_0, yh2_1, rfl, hown, hb⟩
  have Iht2_new := Lib.hid hown
  clear hown
  have hX19 : Hid (Below w18.heap.size w18 w19) := hb
  have hz19 : W.heap.size + 1 ≤ w19.heap.size ∧ w18.heap.size + 0 ≤ w19.heap.size := by have h1 := hb.size; (try simp at h1); omega
  have HB19 : Hid (Below W.heap.size W w19) := HB18.out.trans (hX19.out.mono (by omega))
  have XaN_19 := Lib.hid (XaN_18.out.keep hX19.out)
  clear XaN_18
  have Iw0_19 := Lib.hid (Iw0_18.out.later hX19.out)
  clear Iw0_18
  have Xx0_19 := Lib.hid (Xx0_18.out.keep hX19.out)
  clear Xx0_18
  have M0_19 := Lib.hid (M0_18.out.later hX19.out)
  clear M0_18
  have T0_19 := Lib.hid (T0_18.out.later hX19.out)
  clear T0_18
  clear hb
  have T2_19 := Iht2_new
  clear Iht2_new
  go_wp2_with fail
  go_at_call 29
  refine (HImpl.out _ _ _ ((T0_19.out).at) ((T2_19.out).at)).mono ?_
  rintro e w20 ⟨zh0, rfl, hi0, hb⟩
  obtain ⟨h0_0, h0_1, rfl⟩ := IntS_open hi0.at
  have Ih0_new := Lib.hid hi0
  clear hi0
  have hX20 : Hid (Below w19.heap.size w19 w20) := hb
  have hz20 : W.heap.size + 1 ≤ w20.heap.size ∧ w19.heap.size + 0 ≤ w20.heap.size := by have h1 := hb.size; (try simp at h1); omega
  have HB20 : Hid (Below W.heap.size W w20) := HB19.out.trans (hX20.out.mono (by omega))
  have XaN_20 := Lib.hid (XaN_19.out.keep hX20.out)
  clear XaN_19
  have Iw0_20 := Lib.hid (Iw0_19.out.later hX20.out)
  clear Iw0_19
  have Xx0_20 := Lib.hid (Xx0_19.out.keep hX20.out)
  clear Xx0_19
  have M0_20 := Lib.hid (M0_19.out.later hX20.out)
  clear M0_19
  have T0_20 := Lib.hid (T0_19.out.later hX20.out)
  clear T0_19
  have T2_20 := Lib.hid (T2_19.out.later hX20.out)
  clear T2_19
  clear hb
  clear T0_20
  clear T2_20
  have Ih0_20 := Ih0_new
  clear Ih0_new
  -- if !eqIntS(h0, w0) || h1 != w1 || h2 != w2 {
  go_wp2_with fail
  go_at_call 48
  refine (eqIntS_x _ _ r0 _ ((Ih0_20.out).at) ((Iw0_20.out).at) HQ0.out).mono ?_
  rintro e w21 ⟨rfl, hb⟩
  have hX21 : Hid (Below w20.heap.size w20 w21) := hb
  have hz21 : W.heap.size + 1 ≤ w21.heap.size ∧ w20.heap.size + 0 ≤ w21.heap.size := by have h1 := hb.size; (try simp at h1); omega
  have HB21 : Hid (Below W.heap.size W w21) := HB20.out.trans (hX21.out.mono (by omega))
  have XaN_21 := Lib.hid (XaN_20.out.keep hX21.out)
  clear XaN_20
  have Iw0_21 := Lib.hid (Iw0_20.out.later hX21.out)
  clear Iw0_20
  have Xx0_21 := Lib.hid (Xx0_20.out.keep hX21.out)
  clear Xx0_20
  have M0_21 := Lib.hid (M0_20.out.later hX21.out)
  clear M0_20
  have Ih0_21 := Lib.hid (Ih0_20.out.later hX21.out)
  clear Ih0_20
  clear hb
  clear Ih0_21
  -- q = heldIntS(g0, q)
  go_wp2_with fail
  go_at_call 52
  refine (heldIntS_x _ r0 _ _ (M0_21.out) HQ0.out (by omega) (by omega)).mono ?_
  rintro e w22 ⟨rfl, hb⟩
  have hX22 : Hid (Below w21.heap.size w21 w22) := hb
  have hz22 : W.heap.size + 1 ≤ w22.heap.size ∧ w21.heap.size + 0 ≤ w22.heap.size := by have h1 := hb.size; (try simp at h1); omega
  have HB22 : Hid (Below W.heap.size W w22) := HB21.out.trans (hX22.out.mono (by omega))
  have XaN_22 := Lib.hid (XaN_21.out.keep hX22.out)
  clear XaN_21
  have Iw0_22 := Lib.hid (Iw0_21.out.later hX22.out)
  clear Iw0_21
  have Xx0_22 := Lib.hid (Xx0_21.out.keep hX22.out)
  clear Xx0_21
  have M0_22 := Lib.hid (M0_21.out.later hX22.out)
  clear M0_21
  clear hb
  have hqq : ((1 : Int) + (r0.length : Int) != 1 + (r0.length : Int)) = false := by simp
  go_wp2_with fail
  go_ret
  exact ⟨rfl, HB22.out⟩
end Go.Proofs.Ytfgkfdkdjegaiaa.fnExactBestOffsets
